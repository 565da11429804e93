import Derived.Test.YteabclfhmapabaaDoorPlMkR
import Derived.Test.YteabclfhmapabaaDoorA28
import Derived.Test.YteabclfhmapabaaDoorA29
section
namespace Go.Proofs.YteabclfhmapabaaDoor
open Go.RowKit Go.Maps Go.Shelf
set_option linter.unusedVariables false
set_option linter.unusedSimpArgs false
attribute [local go_sem ↓] Go.wp_at_zero Go.wp_at_succ
attribute [-go_sem] loadVar

theorem lp_nil (w : World) : Lp w (.slice none 0 0) [] := ⟨⟨Nat.zero_le _, none, 0, rfl, Nat.le_refl _, Nat.zero_le _, fun h => absurd h (by simp)⟩, fun t ht => by cases ht⟩
theorem load_PlP {u : World} {b : Nat} {t : TypeId} {cs : List Value} (h : RL u b t cs) (hl : cs.length = 4) : (loadVar 30 ⟨b, 0, none⟩).run Tryd.prog u = .ok (.agg cs.toArray) u :=
  run_loadVar_mid u b 0 30 cs _ (RL.range h) Tryd.underlying30 rfl (by rw [hl]; kernel_rfl)
def noPl : Value := .agg #[.string ⟨#[]⟩, .slice none 0 0, .slice none 0 0, .slice none 0 0]
/-- what Make answers where it makes a plan -/
def MadeP (d : Nat) (r : R3) (l : List ByteArray) (first : Int) (w' : World) (e : Ending) : Prop :=
  ∃ (r' : R3) (p' : RP) (xs : List SX) (a : Option Addr) (c : Nat), e = .returned (.tuple #[.agg #[.string r'.pr, .slice p'.a r'.hd.length p'.c, .slice p'.ba r'.bd.length p'.bc, .slice a xs.length c], .int .i64 0]) ∧ LikeR (resR [] d r) r' ∧ RIs w' d r' p' ∧ Gt d r.bd l (2 ^ r.bd.length - 1) (firstM d l r.bd (2 ^ r.bd.length - 1) first) (xs.map SX.s) ∧ Lz w' (.slice a xs.length c) xs
theorem own_pl4 {w : World} {B : Nat} {e : TypeId} {k : Nat} {v : Value} {n : Nat} {xs : List Value} (h : w.ownsRow B e k v n xs) {g : Nat} (hg : g < B) (pr : ByteArray) (ra : Option Addr) (rn rc : Nat) (ba : Option Addr) (bn bc : Nat) (aa : Option Addr) (nn cc : Nat) : (pl4 w g pr ra rn rc ba bn bc aa nn cc).ownsRow B e k v n xs :=
  own_of_block h (fun j hj => pl4_block _ _ _ _ _ _ _ _ _ _ _ _ (by have := (h.lt j hj).1; omega))
set_option maxRecDepth 100000 in
set_option maxHeartbeats 3200000 in
theorem make_any (d : Nat) (r : R3) (p : RP) (w : World) (hKT : KT w) (hDT : DT w) (hR : RIs w (d + 1) r p) (hs : smallR (d + 1) r) (hT : (termsR (d + 1) r).length ≤ 1048576) {v : Value} {l : List ByteArray} (hl : Ls w v l.length (l.flatMap strB)) (hsz : ∀ i, i < l.length → (atS l i).size ≤ maxLen) (first : Int) :
    Calls Tryd.prog 6 #[r.val p, v, .int .i64 first] w fun e w' => Below w.heap.size w w' ∧
      ((ruleB (d + 1) r = false ∧ e = .returned (.tuple #[noPl, .int .i64 40])) ∨
       (ruleB (d + 1) r = true ∧ knB l l.length = false ∧ e = .returned (.tuple #[noPl, .int .i64 1])) ∨
       (ruleB (d + 1) r = true ∧ knB l l.length = true ∧ ∃ fs, LimK (d + 1) l r fs ∧ ((fs.length ≠ (vsT [] (termsR (d + 1) r)).length ∧ e = .returned (.tuple #[noPl, .int .i64 73])) ∨
         (fs.length = (vsT [] (termsR (d + 1) r)).length ∧ ((first ≠ -1 ∧ isAtM r.bd (2 ^ r.bd.length - 1) first = false ∧ e = .returned (.tuple #[noPl, .int .i64 120])) ∨ ((first = -1 ∨ isAtM r.bd (2 ^ r.bd.length - 1) first = true) ∧ MadeP (d + 1) r l first w' e)))))) := by
  have hA1 := belowA (w := w) (.cells #[.string r.pr, .slice p.a r.hd.length p.c, .slice p.ba r.bd.length p.bc] 25)
  have hA2 : Below w.heap.size w ((w.alloc (.cells #[.string r.pr, .slice p.a r.hd.length p.c, .slice p.ba r.bd.length p.bc] 25)).alloc (.cells #[.string ⟨#[]⟩, .slice none 0 0, .slice none 0 0, .slice none 0 0] 30)) := hA1.trans ((belowA _).mono hA1.size)
  have HRL : Hid (RL ((w.alloc (.cells #[.string r.pr, .slice p.a r.hd.length p.c, .slice p.ba r.bd.length p.bc] 25)).alloc (.cells #[.string ⟨#[]⟩, .slice none 0 0, .slice none 0 0, .slice none 0 0] 30)) w.heap.size 25 [.string r.pr, .slice p.a r.hd.length p.c, .slice p.ba r.bd.length p.bc]) := RL.below (rl_new w #[.string r.pr, .slice p.a r.hd.length p.c, .slice p.ba r.bd.length p.bc] 25) (belowA _)
  have HPL : Hid (RL ((w.alloc (.cells #[.string r.pr, .slice p.a r.hd.length p.c, .slice p.ba r.bd.length p.bc] 25)).alloc (.cells #[.string ⟨#[]⟩, .slice none 0 0, .slice none 0 0, .slice none 0 0] 30)) (w.heap.size + 1) 30 [.string ⟨#[]⟩, .slice none 0 0, .slice none 0 0, .slice none 0 0]) := by
    have h1 := rl_new (w.alloc (.cells #[.string r.pr, .slice p.a r.hd.length p.c, .slice p.ba r.bd.length p.bc] 25)) #[.string ⟨#[]⟩, .slice none 0 0, .slice none 0 0, .slice none 0 0] 30
    rw [World.size_alloc] at h1
    exact h1
  have hld := load_ruP (g := w.heap.size) (o := 0) (cs := [.string r.pr, .slice p.a r.hd.length p.c, .slice p.ba r.bd.length p.bc]) (RL.range HRL.out) rfl
  have HBG := Lib.hid (begin_any d r p _ (hKT.below hA2) (hR.below hA2) hs hT (hl.below hA2) hsz)
  have HB2 := Lib.hid hA2
  have HKT := Lib.hid hKT
  have HDT := Lib.hid hDT
  have HR := Lib.hid hR
  have HSM := Lib.hid hs
  have HBD : Hid (ruleB (d + 1) r = true → BdR (d + 1) r.bd) := fun h => bdR_of h hT
  unfold R3.val at HBG
  clear hA1 hA2 hKT hDT hR hs hT hl hsz
  unfold R3.val
  go_enter Tryd.func6, Tryd.ntmps6
  go_wp2_with fail
  refine HBG.out.mono ?_
  obtain ⟨W, hW⟩ : ∃ W, W = (w.alloc (.cells #[.string r.pr, .slice p.a r.hd.length p.c, .slice p.ba r.bd.length p.bc] 25)).alloc (.cells #[.string ⟨#[]⟩, .slice none 0 0, .slice none 0 0, .slice none 0 0] 30) := ⟨_, rfl⟩
  have HZW : Hid (W.heap.size = w.heap.size + 2) := by show _ = _; rw [hW]; simp
  rw [← hW] at HRL HPL HB2 ⊢
  clear hW hld HBG
  rintro e w1 ⟨b1, hcase⟩
  have HB1 := Lib.hid b1
  have HPW := Lib.hid (RL.below HPL.out b1)
  have z0 := RL.at HPW.out (j := 0) rfl
  have z1 := RL.at HPW.out (j := 1) rfl
  have z2 := RL.at HPW.out (j := 2) rfl
  have z3 := RL.at HPW.out (j := 3) rfl
  have y0 := World.rowIs.frozen HPW.out 0
  have y1 := World.rowIs.frozen HPW.out 1
  have y2 := World.rowIs.frozen HPW.out 2
  have y3 := World.rowIs.frozen HPW.out 3
  have HWB : Hid (Below w.heap.size w w1) := HB2.out.trans (b1.mono HB2.out.size)
  have HNO : Hid (RL (pl4 w1 (w.heap.size + 1) ⟨#[]⟩ none 0 0 none 0 0 none 0 0) (w.heap.size + 1) 30 [.string ⟨#[]⟩, .slice none 0 0, .slice none 0 0, .slice none 0 0] ∧ Below w.heap.size w (pl4 w1 (w.heap.size + 1) ⟨#[]⟩ none 0 0 none 0 0 none 0 0)) := ⟨pl4_rl HPW.out _ _ _ _ _ _ _ _ _ _, pl4_below HWB.out (Nat.le_succ _) _ _ _ _ _ _ _ _ _ _⟩
  clear b1
  unfold pl4 at HNO
  rcases hcase with ⟨hr0, rfl⟩ | ⟨hr1, hk0, rfl⟩ | ⟨hr1, hk1, fs, hlk, ⟨hne, rfl⟩ | ⟨heq, tb, kb, rfl, htu, htb, hkb⟩⟩
  · have HF := Lib.hid hr0
    clear hr0 HBD
    go_wp2
    refine bodyPost_ret (rl_resPQ Tryd.results6 (v := noPl) (u := .int .i64 40) rfl rfl (load_PlP HNO.out.1 rfl)) rfl ?_
    exact ⟨HNO.out.2, .inl ⟨HF.out, rfl⟩⟩
  · have HF := Lib.hid (And.intro hr1 hk0)
    clear hr1 hk0 HBD
    go_wp2
    refine bodyPost_ret (rl_resPQ Tryd.results6 (v := noPl) (u := .int .i64 1) rfl rfl (load_PlP HNO.out.1 rfl)) rfl ?_
    exact ⟨HNO.out.2, .inr (.inl ⟨HF.out.1, HF.out.2, rfl⟩)⟩
  · have HF := Lib.hid (And.intro hr1 (And.intro hk1 (And.intro hlk hne)))
    clear hr1 hk1 hlk hne HBD
    go_wp2
    refine bodyPost_ret (rl_resPQ Tryd.results6 (v := noPl) (u := .int .i64 73) rfl rfl (load_PlP HNO.out.1 rfl)) rfl ?_
    exact ⟨HNO.out.2, .inr (.inr ⟨HF.out.1, HF.out.2.1, fs, HF.out.2.2.1, .inl ⟨HF.out.2.2.2, rfl⟩⟩)⟩
  · have HY := Lib.hid (And.intro hr1 (And.intro hk1 (And.intro hlk heq)))
    have HD := Lib.hid (HBD.out hr1)
    have HTU := Lib.hid htu
    have HTB : Hid (w.heap.size + 2 ≤ tb) := by have := HZW.out; show _ ≤ _; omega
    have HKB : Hid (w.heap.size + 2 ≤ kb) := by have := HZW.out; show _ ≤ _; omega
    have HLW : Hid ((2 : Nat) ^ r.bd.length - 1 < 2 ^ r.bd.length) := by
      have : 0 < (2 : Nat) ^ r.bd.length := Nat.two_pow_pos _
      show _ < _
      omega
    have hld2 := load_ruP (u := w1) (g := w.heap.size) (o := 0) (cs := [.string r.pr, .slice p.a r.hd.length p.c, .slice p.ba r.bd.length p.bc]) (RL.range (RL.below HRL.out HB1.out)) rfl
    have HAP := Lib.hid (applyRule_fr (.slice none 0 0) [] (d + 1) r p w1 (HKT.out.below HWB.out) (HR.out.below HWB.out) HSM.out (lp_nil w1) (Nat.zero_le _))
    unfold R3.val at HAP
    clear hr1 hk1 hlk heq htu htb hkb HBD
    by_cases hfi : first = -1
    · have dfi : (first != -1) = false := by rw [hfi]; rfl
      have HFI : Hid (first = -1 ∨ isAtM r.bd (2 ^ r.bd.length - 1) first = true) := .inl hfi
      have HFH : Hid (first = -1 ∨ hasB (2 ^ r.bd.length - 1) first = true) := .inl hfi
      clear hfi z0 z1 z2 z3 y0 y1 y2 y3
      go_wp2_with fail
      refine HAP.out.mono ?_
      rintro e w3 ⟨r', p', rfl, b3, hlike, hfr⟩
      have HLK := Lib.hid hlike
      have HFR := Lib.hid hfr
      have HB3 := Lib.hid b3
      have HPL3 := Lib.hid (RL.below HPW.out b3)
      have HA6 : Hid (Below w3.heap.size w3 (w3.alloc (.cells #[.string r'.pr, .slice p'.a r'.hd.length p'.c, .slice p'.ba r'.bd.length p'.bc] 25))) := belowA _
      have HRX := Lib.hid (rl_new w3 #[.string r'.pr, .slice p'.a r'.hd.length p'.c, .slice p'.ba r'.bd.length p'.bc] 25)
      clear HAP hlike hfr b3 hld2
      go_upto_region 7 with fail
      obtain ⟨V, hV⟩ : ∃ V, V = w3.alloc (.cells #[.string r'.pr, .slice p'.a r'.hd.length p'.c, .slice p'.ba r'.bd.length p'.bc] 25) := ⟨_, rfl⟩
      rw [← hV] at HA6 HRX ⊢
      have HZ3 : Hid (V.heap.size = w3.heap.size + 1) := by show _ = _; rw [hV]; simp
      clear hV
      have HBV : Hid (Below w1.heap.size w1 V) := HB3.out.trans (HA6.out.mono HB3.out.size)
      have HWV : Hid (Below w.heap.size w V) := HWB.out.trans (HBV.out.mono HWB.out.size)
      have HTV : Hid (TuIs V.drew tb kb (.slice p.ba r.bd.length p.bc) l (2 ^ r.bd.length - 1)) := ⟨RL.below (RL.below HTU.out.rl HBV.out) (Below.refl _ _).drew, (HTU.out.set.of_block (HBV.out.block kb HTU.out.set.lt)).of_block rfl, HTU.out.ne⟩
      have hpx : ∀ u, Px tb kb V.drew u → Below w.heap.size w u := fun u hu => HWV.out.trans (Px.below (w := V) ⟨hu.os, hu.tape, hu.output, hu.size, hu.block⟩ HWV.out.size (by have := HTB.out; omega) (by have := HKB.out; omega))
      have HGT := Lib.hid (goThrough_any (w := V.drew) (d := d + 1) HTV.out (fun u hu => (HR.out.below (hpx u hu)).bd) HD.out HLW.out (fun u hu => HDT.out.below (hpx u hu)) (fun x hx k ss => stM_sz (HR.out.bd.each x hx) ss k) first HFH.out)
      refine wp_region_noPanic ?_
      refine wp_region_held (S := fun u => RL u w3.heap.size 25 [.string r'.pr, .slice p'.a r'.hd.length p'.c, .slice p'.ba r'.bd.length p'.bc]) (by kernel_rfl) ?_
      refine pmk7 (w5 := V) (S := fun u => RL u w3.heap.size 25 [.string r'.pr, .slice p'.a r'.hd.length p'.c, .slice p'.ba r'.bd.length p'.bc]) (tb := tb) (b6 := w.heap.size + 1) (b10 := w3.heap.size) (first := first) (pr := r'.pr) (ra := p'.a) (rn := r'.hd.length) (rc := p'.c) (ba := p'.ba) (bn := r'.bd.length) (bc := p'.bc) (Pf := fun aa nn cc u => ∃ xs : List SX, nn = xs.length ∧ RL u (w.heap.size + 1) 30 [.string r'.pr, .slice p'.a r'.hd.length p'.c, .slice p'.ba r'.bd.length p'.bc, .slice aa xs.length cc] ∧ Below w.heap.size w u ∧ RIs u (d + 1) r' p' ∧ Gt (d + 1) r.bd l (2 ^ r.bd.length - 1) (firstM (d + 1) l r.bd (2 ^ r.bd.length - 1) first) (xs.map SX.s) ∧ Lz u (.slice aa xs.length cc) xs) rfl rfl rfl rfl rfl rfl rfl (by kernel_rfl) (by kernel_rfl) (by kernel_rfl) (by kernel_rfl) (by kernel_rfl) (by intros; assumption) (by simp) rfl rfl rfl rfl (RL.below HRX.out (Below.refl _ _).drew) (fun _ _ _ h => h) (fun u hu => load_ruP (RL.range hu) rfl) ?_ ?_
      · refine HGT.out.mono ?_
        rintro e u1 ⟨hpx1, xs, a, c, rfl, hgt, hown, hgiv⟩
        have h1 := HTB.out
        have h2 := HKB.out
        have h3 := HZ3.out
        have hw3 : w.heap.size + 2 ≤ w3.heap.size := Nat.le_trans (by have := HZW.out; have := HB1.out.size; omega) HB3.out.size
        have htl : tb < w3.heap.size := Nat.lt_of_lt_of_le HTU.out.rl.lt HB3.out.size
        have hkl : kb < w3.heap.size := Nat.lt_of_lt_of_le HTU.out.set.lt HB3.out.size
        have hV2 : V.drew.heap.size = V.heap.size := rfl
        have hrx : RL u1 w3.heap.size 25 [.string r'.pr, .slice p'.a r'.hd.length p'.c, .slice p'.ba r'.bd.length p'.bc] := World.rowIs.of_block (RL.below HRX.out (Below.refl _ _).drew) (hpx1.block _ (by omega) (by omega) (by omega))
        have hpl : RL u1 (w.heap.size + 1) 30 [.string ⟨#[]⟩, .slice none 0 0, .slice none 0 0, .slice none 0 0] := World.rowIs.of_block (RL.below (RL.below HPL3.out HA6.out) (Below.refl _ _).drew) (hpx1.block _ (by omega) (by omega) (by omega))
        have hne : w3.heap.size ≠ w.heap.size + 1 := by omega
        refine ⟨a, xs.length, c, rfl, hrx, ⟨_, _, _, _, hpl⟩, World.rowIs.of_block hrx (pl4_block _ _ _ _ _ _ _ _ _ _ _ _ hne), xs, rfl, pl4_rl hpl _ _ _ _ _ _ _ _ _ _, pl4_below (hpx u1 hpx1) (Nat.le_succ _) _ _ _ _ _ _ _ _ _ _, ?_, hgt, ?_⟩
        · refine HFR.out _ ?_ (fun k hk1 hk2 => ?_)
          · have h4 : (pl4 u1 (w.heap.size + 1) r'.pr p'.a r'.hd.length p'.c p'.ba r'.bd.length p'.bc a xs.length c).heap.size = u1.heap.size := by simp [pl4, World.setCell]
            have := hpx1.size
            omega
          · have hk3 : w1.heap.size ≤ k := hk1
            have ht1 : tb < w1.heap.size := HTU.out.rl.lt
            have ht2 : kb < w1.heap.size := HTU.out.set.lt
            have hk4 : w.heap.size + 1 < w1.heap.size := HPW.out.lt
            rw [pl4_block _ _ _ _ _ _ _ _ _ _ _ _ (by omega)]
            exact (hpx1.block k (by omega) (by omega) (by omega)).trans (HA6.out.block k hk2)
        · exact ⟨ls_own (own_pl4 hown (g := w.heap.size + 1) (by omega) _ _ _ _ _ _ _ _ _ _), fun y hy => ls_own (own_pl4 (hgiv y hy) (g := w.heap.size + 1) (by omega) _ _ _ _ _ _ _ _ _ _)⟩
      rintro wc aa nn cc ⟨xs, rfl, hrl, hbw, hri, hgt, hlz⟩
      refine NoPanic.normal ?_
      rename_i hK
      refine hK _ _ ?_
      simp (config := { maxSteps := 8000000 }) only [Act.put, List.getElem_toArray, List.getElem_cons_zero, List.getElem_cons_succ, List.setIfInBounds_toArray, List.set_cons_succ, List.set_cons_zero]
      have HRS := Lib.hid hrl
      have HFF := Lib.hid (And.intro hbw (And.intro hri (And.intro hgt hlz)))
      clear hK hrl hbw hri hgt hlz HGT hpx
      go_wp2
      refine bodyPost_ret (rl_resPQ Tryd.results6 (v := .agg #[.string r'.pr, .slice p'.a r'.hd.length p'.c, .slice p'.ba r'.bd.length p'.bc, .slice aa xs.length cc]) (u := .int .i64 0) rfl rfl (load_PlP HRS.out rfl)) rfl ?_
      exact ⟨HFF.out.1, .inr (.inr ⟨HY.out.1, HY.out.2.1, fs, HY.out.2.2.1, .inr ⟨HY.out.2.2.2, .inr ⟨HFI.out, r', p', xs, aa, cc, rfl, HLK.out, HFF.out.2.1, HFF.out.2.2.1, HFF.out.2.2.2⟩⟩⟩)⟩
    · have dfi : (first != -1) = true := by rw [bne_iff_ne]; exact hfi
      have HFN := Lib.hid hfi
      have HTA := Lib.hid (turnAtom_any HTU.out (HR.out.below HWB.out).bd HD.out.bn HLW.out first)
      clear hfi
      go_wp2_with fail
      refine HTA.out.mono ?_
      rintro e w1 ⟨rfl, rfl⟩
      cases ha : isAtM r.bd (2 ^ r.bd.length - 1) first
      · have HF := Lib.hid ha
        clear ha HTA HAP
        go_wp2
        refine bodyPost_ret (rl_resPQ Tryd.results6 (v := noPl) (u := .int .i64 120) rfl rfl (load_PlP HNO.out.1 rfl)) rfl ?_
        exact ⟨HNO.out.2, .inr (.inr ⟨HY.out.1, HY.out.2.1, fs, HY.out.2.2.1, .inr ⟨HY.out.2.2.2, .inl ⟨HFN.out, HF.out, rfl⟩⟩⟩)⟩
      · have HFI : Hid (first = -1 ∨ isAtM r.bd (2 ^ r.bd.length - 1) first = true) := .inr ha
        have HFH : Hid (first = -1 ∨ hasB (2 ^ r.bd.length - 1) first = true) := .inr (by
          unfold isAtM at ha
          simp only [Bool.and_eq_true] at ha
          exact ha.1)
        clear ha HTA z0 z1 z2 z3 y0 y1 y2 y3
        go_wp2_with fail
        refine HAP.out.mono ?_
        rintro e w3 ⟨r', p', rfl, b3, hlike, hfr⟩
        have HLK := Lib.hid hlike
        have HFR := Lib.hid hfr
        have HB3 := Lib.hid b3
        have HPL3 := Lib.hid (RL.below HPW.out b3)
        have HA6 : Hid (Below w3.heap.size w3 (w3.alloc (.cells #[.string r'.pr, .slice p'.a r'.hd.length p'.c, .slice p'.ba r'.bd.length p'.bc] 25))) := belowA _
        have HRX := Lib.hid (rl_new w3 #[.string r'.pr, .slice p'.a r'.hd.length p'.c, .slice p'.ba r'.bd.length p'.bc] 25)
        clear HAP hlike hfr b3 hld2
        go_upto_region 7 with fail
        obtain ⟨V, hV⟩ : ∃ V, V = w3.alloc (.cells #[.string r'.pr, .slice p'.a r'.hd.length p'.c, .slice p'.ba r'.bd.length p'.bc] 25) := ⟨_, rfl⟩
        rw [← hV] at HA6 HRX ⊢
        have HZ3 : Hid (V.heap.size = w3.heap.size + 1) := by show _ = _; rw [hV]; simp
        clear hV
        have HBV : Hid (Below w1.heap.size w1 V) := HB3.out.trans (HA6.out.mono HB3.out.size)
        have HWV : Hid (Below w.heap.size w V) := HWB.out.trans (HBV.out.mono HWB.out.size)
        have HTV : Hid (TuIs V.drew tb kb (.slice p.ba r.bd.length p.bc) l (2 ^ r.bd.length - 1)) := ⟨RL.below (RL.below HTU.out.rl HBV.out) (Below.refl _ _).drew, (HTU.out.set.of_block (HBV.out.block kb HTU.out.set.lt)).of_block rfl, HTU.out.ne⟩
        have hpx : ∀ u, Px tb kb V.drew u → Below w.heap.size w u := fun u hu => HWV.out.trans (Px.below (w := V) ⟨hu.os, hu.tape, hu.output, hu.size, hu.block⟩ HWV.out.size (by have := HTB.out; omega) (by have := HKB.out; omega))
        have HGT := Lib.hid (goThrough_any (w := V.drew) (d := d + 1) HTV.out (fun u hu => (HR.out.below (hpx u hu)).bd) HD.out HLW.out (fun u hu => HDT.out.below (hpx u hu)) (fun x hx k ss => stM_sz (HR.out.bd.each x hx) ss k) first HFH.out)
        refine wp_region_noPanic ?_
        refine wp_region_held (S := fun u => RL u w3.heap.size 25 [.string r'.pr, .slice p'.a r'.hd.length p'.c, .slice p'.ba r'.bd.length p'.bc]) (by kernel_rfl) ?_
        refine pmk7 (w5 := V) (S := fun u => RL u w3.heap.size 25 [.string r'.pr, .slice p'.a r'.hd.length p'.c, .slice p'.ba r'.bd.length p'.bc]) (tb := tb) (b6 := w.heap.size + 1) (b10 := w3.heap.size) (first := first) (pr := r'.pr) (ra := p'.a) (rn := r'.hd.length) (rc := p'.c) (ba := p'.ba) (bn := r'.bd.length) (bc := p'.bc) (Pf := fun aa nn cc u => ∃ xs : List SX, nn = xs.length ∧ RL u (w.heap.size + 1) 30 [.string r'.pr, .slice p'.a r'.hd.length p'.c, .slice p'.ba r'.bd.length p'.bc, .slice aa xs.length cc] ∧ Below w.heap.size w u ∧ RIs u (d + 1) r' p' ∧ Gt (d + 1) r.bd l (2 ^ r.bd.length - 1) (firstM (d + 1) l r.bd (2 ^ r.bd.length - 1) first) (xs.map SX.s) ∧ Lz u (.slice aa xs.length cc) xs) rfl rfl rfl rfl rfl rfl rfl (by kernel_rfl) (by kernel_rfl) (by kernel_rfl) (by kernel_rfl) (by kernel_rfl) (by intros; assumption) (by simp) rfl rfl rfl rfl (RL.below HRX.out (Below.refl _ _).drew) (fun _ _ _ h => h) (fun u hu => load_ruP (RL.range hu) rfl) ?_ ?_
        · refine HGT.out.mono ?_
          rintro e u1 ⟨hpx1, xs, a, c, rfl, hgt, hown, hgiv⟩
          have h1 := HTB.out
          have h2 := HKB.out
          have h3 := HZ3.out
          have hw3 : w.heap.size + 2 ≤ w3.heap.size := Nat.le_trans (by have := HZW.out; have := HB1.out.size; omega) HB3.out.size
          have htl : tb < w3.heap.size := Nat.lt_of_lt_of_le HTU.out.rl.lt HB3.out.size
          have hkl : kb < w3.heap.size := Nat.lt_of_lt_of_le HTU.out.set.lt HB3.out.size
          have hV2 : V.drew.heap.size = V.heap.size := rfl
          have hrx : RL u1 w3.heap.size 25 [.string r'.pr, .slice p'.a r'.hd.length p'.c, .slice p'.ba r'.bd.length p'.bc] := World.rowIs.of_block (RL.below HRX.out (Below.refl _ _).drew) (hpx1.block _ (by omega) (by omega) (by omega))
          have hpl : RL u1 (w.heap.size + 1) 30 [.string ⟨#[]⟩, .slice none 0 0, .slice none 0 0, .slice none 0 0] := World.rowIs.of_block (RL.below (RL.below HPL3.out HA6.out) (Below.refl _ _).drew) (hpx1.block _ (by omega) (by omega) (by omega))
          have hne : w3.heap.size ≠ w.heap.size + 1 := by omega
          refine ⟨a, xs.length, c, rfl, hrx, ⟨_, _, _, _, hpl⟩, World.rowIs.of_block hrx (pl4_block _ _ _ _ _ _ _ _ _ _ _ _ hne), xs, rfl, pl4_rl hpl _ _ _ _ _ _ _ _ _ _, pl4_below (hpx u1 hpx1) (Nat.le_succ _) _ _ _ _ _ _ _ _ _ _, ?_, hgt, ?_⟩
          · refine HFR.out _ ?_ (fun k hk1 hk2 => ?_)
            · have h4 : (pl4 u1 (w.heap.size + 1) r'.pr p'.a r'.hd.length p'.c p'.ba r'.bd.length p'.bc a xs.length c).heap.size = u1.heap.size := by simp [pl4, World.setCell]
              have := hpx1.size
              omega
            · have hk3 : w1.heap.size ≤ k := hk1
              have ht1 : tb < w1.heap.size := HTU.out.rl.lt
              have ht2 : kb < w1.heap.size := HTU.out.set.lt
              have hk4 : w.heap.size + 1 < w1.heap.size := HPW.out.lt
              rw [pl4_block _ _ _ _ _ _ _ _ _ _ _ _ (by omega)]
              exact (hpx1.block k (by omega) (by omega) (by omega)).trans (HA6.out.block k hk2)
          · exact ⟨ls_own (own_pl4 hown (g := w.heap.size + 1) (by omega) _ _ _ _ _ _ _ _ _ _), fun y hy => ls_own (own_pl4 (hgiv y hy) (g := w.heap.size + 1) (by omega) _ _ _ _ _ _ _ _ _ _)⟩
        rintro wc aa nn cc ⟨xs, rfl, hrl, hbw, hri, hgt, hlz⟩
        refine NoPanic.normal ?_
        rename_i hK
        refine hK _ _ ?_
        simp (config := { maxSteps := 8000000 }) only [Act.put, List.getElem_toArray, List.getElem_cons_zero, List.getElem_cons_succ, List.setIfInBounds_toArray, List.set_cons_succ, List.set_cons_zero]
        have HRS := Lib.hid hrl
        have HFF := Lib.hid (And.intro hbw (And.intro hri (And.intro hgt hlz)))
        clear hK hrl hbw hri hgt hlz HGT hpx
        go_wp2
        refine bodyPost_ret (rl_resPQ Tryd.results6 (v := .agg #[.string r'.pr, .slice p'.a r'.hd.length p'.c, .slice p'.ba r'.bd.length p'.bc, .slice aa xs.length cc]) (u := .int .i64 0) rfl rfl (load_PlP HRS.out rfl)) rfl ?_
        exact ⟨HFF.out.1, .inr (.inr ⟨HY.out.1, HY.out.2.1, fs, HY.out.2.2.1, .inr ⟨HY.out.2.2.2, .inr ⟨HFI.out, r', p', xs, aa, cc, rfl, HLK.out, HFF.out.2.1, HFF.out.2.2.1, HFF.out.2.2.2⟩⟩⟩)⟩
end Go.Proofs.YteabclfhmapabaaDoor
end
section
namespace Go.Proofs.YteabclfhmapabaaDoor
open Go.RowKit Go.Maps Go.Shelf
set_option linter.unusedVariables false
set_option linter.unusedSimpArgs false

/-! rules that are the same have the same plans; what limited says of check.Rule (PlanSound) -/
theorem LikeR.atX {r s : R3} (h : LikeR r s) (i : Nat) : (atL s.bd i).x = (atL r.bd i).x := by
  by_cases hi : i < r.bd.length
  · exact h.bd i hi
  · have h1 : r.bd.length ≤ i := by omega
    have h2 : s.bd.length ≤ i := by rw [h.bl]; exact h1
    unfold atL
    rw [List.getD, List.getD, List.getElem?_eq_none h1, List.getElem?_eq_none h2]
theorem LikeR.stL {r s : R3} (h : LikeR r s) (d : Nat) (ss : List ByteArray) (k : Nat) : Go.Proofs.YteabclfhmapabaaDoor.stL d ss s.bd k = Go.Proofs.YteabclfhmapabaaDoor.stL d ss r.bd k := by
  unfold Go.Proofs.YteabclfhmapabaaDoor.stL
  rw [h.atX]
theorem LikeR.okW {r s : R3} (h : LikeR r s) (d : Nat) (ss : List ByteArray) (left : Nat) (x : St) : Go.Proofs.YteabclfhmapabaaDoor.okW d s.bd ss left x = Go.Proofs.YteabclfhmapabaaDoor.okW d r.bd ss left x := by
  unfold Go.Proofs.YteabclfhmapabaaDoor.okW
  rw [h.stL]
theorem LikeR.goR {r s : R3} (h : LikeR r s) (d : Nat) : ∀ (xs : List St) (ss : List ByteArray) (left : Nat), Go.Proofs.YteabclfhmapabaaDoor.goR d s.bd ss left xs = Go.Proofs.YteabclfhmapabaaDoor.goR d r.bd ss left xs
  | [], ss, left => rfl
  | x :: xs, ss, left => by
    rw [Go.Proofs.YteabclfhmapabaaDoor.goR, Go.Proofs.YteabclfhmapabaaDoor.goR, h.okW, h.stL, LikeR.goR h d xs]
theorem LimK.one {r : R3} {d : Nat} {ss fs fs' : List ByteArray} (h : LimK d ss r fs) (h' : LimK d ss r fs') : fs = fs' := Lim.one ⟨h.it, h.st⟩ ⟨h'.it, h'.st⟩
/-- without pairs a rule stays -/
theorem putT_nil (t : T) : putT [] t = t := by
  unfold putT res
  split <;> rfl
theorem apD_id {f : T → T} (hf : ∀ t, f t = t) : ∀ (d : Nat) (e : E), apD f d e = e
  | 0, e => rfl
  | d + 1, e => by
    rw [apD_succ, hf, show e.kids.map (apD f d) = e.kids from by
      conv => rhs; rw [← List.map_id e.kids]
      exact List.map_congr_left (fun x _ => apD_id hf d x)]
    cases e
    rfl
theorem apL_id {f : T → T} (hf : ∀ t, f t = t) (d : Nat) (x : Lit4) : apL f d x = x := by
  unfold apL
  rw [apD_id hf, apD_id hf, show x.ts.map f = x.ts from by
    conv => rhs; rw [← List.map_id x.ts]
    exact List.map_congr_left (fun t _ => hf t)]
theorem apR_id {f : T → T} (hf : ∀ t, f t = t) (d : Nat) (r : R3) : apR f d r = r := by
  unfold apR
  rw [show r.hd.map (apA f) = r.hd from by
    conv => rhs; rw [← List.map_id r.hd]
    exact List.map_congr_left (fun t _ => by unfold apA; rw [hf]; rfl), show r.bd.map (apX f d) = r.bd from by
    conv => rhs; rw [← List.map_id r.bd]
    exact List.map_congr_left (fun t _ => by unfold apX; rw [apL_id hf]; rfl)]
theorem resR_nil {d : Nat} {r : R3} (h : ruleB d r = true) : resR [] d r = r := by
  unfold resR okR
  rw [apR_id putT_nil, h]
  rfl
end Go.Proofs.YteabclfhmapabaaDoor
end
section
namespace Go.Proofs.YteabclfhmapabaaDoor
open Go.RowKit Go.Maps Go.Shelf
set_option linter.unusedVariables false
set_option linter.unusedSimpArgs false

/-! p(X, N) :- N = M + 1, e(X, M). -/
def sX : ByteArray := ⟨#[88]⟩
def sN : ByteArray := ⟨#[78]⟩
def sM : ByteArray := ⟨#[77]⟩
def v1 : V := ⟨1, 1, ⟨#[]⟩⟩
def oX : T := ⟨sX, V0⟩
def oN : T := ⟨sN, V0⟩
def oM : T := ⟨sM, V0⟩
def o1 : T := ⟨⟨#[]⟩, v1⟩
def oS : Lit4 := ⟨3, ⟨#[]⟩, [], 1, E.mk 0 oN [], E.mk 2 T0 [E.mk 0 oM [], E.mk 0 o1 []]⟩
def oE : Lit4 := ⟨1, ⟨#[101]⟩, [oX, oM], 0, E0, E0⟩
def oR (p1 p2 : LP) : R3 := ⟨⟨#[112]⟩, [⟨0, oX⟩, ⟨0, oN⟩], [⟨oS, p1⟩, ⟨oE, p2⟩]⟩
def oT1 : St := ⟨2, 1, 1, [sM]⟩
def oT2 : St := ⟨6, 0, 0, [sN]⟩
theorem o_rule (p1 p2 : LP) : ruleB 3 (oR p1 p2) = true := by kernel_rfl
theorem o_kn : knB [sX] 1 = true := by kernel_rfl
theorem o_vars (p1 p2 : LP) : (vsT [] (termsR 3 (oR p1 p2))).length = 3 := by kernel_rfl
theorem o_next1 (p1 p2 : LP) : nextM 3 [sX] (oR p1 p2).bd 3 = (oT1, true) := by kernel_rfl
theorem o_next2 (p1 p2 : LP) : nextM 3 [sX, sM] (oR p1 p2).bd (clrN 3 1) = (oT2, true) := by kernel_rfl
theorem o_next3 (p1 p2 : LP) : nextM 3 [sX, sM, sN] (oR p1 p2).bd (clrN (clrN 3 1) 0) = (⟨0, 0, 0, []⟩, false) := by kernel_rfl
theorem o_go (p1 p2 : LP) : endR (goR 3 (oR p1 p2).bd [sX] 3 [oT1, oT2]) = true := by kernel_rfl
theorem o_go0 (p1 p2 : LP) : endR (goR 3 (oR p1 p2).bd [] 3 [oT1, oT2]) = false := by kernel_rfl
theorem o_res (p1 p2 : LP) : resR [] 3 (oR p1 p2) = oR p1 p2 := by kernel_rfl
theorem o_lim {fs : List ByteArray} {p1 p2 : LP} (h : LimK 3 [sX] (oR p1 p2) fs) : fs.length = 3 := by
  obtain ⟨⟨j, rfl⟩, hs⟩ := h
  have hk : rndQ (eqL 3 (kbL 3 [sX] (oR p1 p2))) (itQ (eqL 3 (kbL 3 [sX] (oR p1 p2))) 1 (atN (kbL 3 [sX] (oR p1 p2)))) = itQ (eqL 3 (kbL 3 [sX] (oR p1 p2))) 1 (atN (kbL 3 [sX] (oR p1 p2))) := by kernel_rfl
  have e := itQ_one hs hk
  have h3 : (itQ (eqL 3 (kbL 3 [sX] (oR p1 p2))) 1 (atN (kbL 3 [sX] (oR p1 p2)))).length = 3 := by kernel_rfl
  exact (congrArg List.length e).trans h3
theorem o_gt {xs : List St} {p1 p2 : LP} (h : Gt 3 (oR p1 p2).bd [sX] 3 (firstM 3 [sX] (oR p1 p2).bd 3 (-1)) xs) : xs = [oT1, oT2] := by
  have e1 : firstM 3 [sX] (oR p1 p2).bd 3 (-1) = (oT1, true) := by
    unfold firstM
    rw [if_pos rfl]
    exact o_next1 p1 p2
  rw [e1] at h
  cases h with
  | more _ _ _ xs h =>
    have e2 : nextM 3 ([sX] ++ oT1.g) (oR p1 p2).bd (clrN 3 oT1.i.toNat) = (oT2, true) := o_next2 p1 p2
    rw [e2] at h
    cases h with
    | more _ _ _ xs h =>
      have e3 : nextM 3 ([sX] ++ oT1.g ++ oT2.g) (oR p1 p2).bd (clrN (clrN 3 oT1.i.toNat) oT2.i.toNat) = (⟨0, 0, 0, []⟩, false) := o_next3 p1 p2
      rw [e3] at h
      cases h
      rfl
theorem o_like {p1 p2 : LP} {r : R3} (h : LikeR (oR p1 p2) r) : ∃ q1 q2, r = oR q1 q2 := by
  obtain ⟨pr, hd, bd⟩ := r
  have h1 := h.pr
  have h2 := h.hd
  have h3 := h.bl
  simp only at h1 h2 h3
  subst h1 h2
  have h4 : bd.length = 2 := h3
  match bd, h4 with
  | [⟨x1, q1⟩, ⟨x2, q2⟩], _ =>
    have a1 := h.bd 0 (by show 0 < 2; decide)
    have a2 := h.bd 1 (by show 1 < 2; decide)
    have b1 : x1 = oS := a1
    have b2 : x2 = oE := a2
    subst b1 b2
    exact ⟨q1, q2, rfl⟩
end Go.Proofs.YteabclfhmapabaaDoor
end
