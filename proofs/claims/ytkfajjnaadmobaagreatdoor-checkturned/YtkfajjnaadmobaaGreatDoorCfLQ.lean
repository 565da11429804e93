import Derived.Test.YtkfajjnaadmobaaGreatDoorG37
section
namespace Go.Proofs.YtkfajjnaadmobaaGreatDoor
open Go.RowKit Go.Maps
set_option linter.unusedVariables false
set_option linter.unusedSimpArgs false
attribute [local go_sem ↓] Go.wp_at_zero Go.wp_at_succ

def xS : ByteArray := ⟨#[88]⟩
def xT : T := ⟨xS, V0⟩
def qX (b : Nat) : XL := ⟨⟨1, ⟨#[113]⟩, [xT], 0, E0, E0⟩, ⟨some ⟨b, 0, none⟩, 1, none, 0, none, 0⟩⟩
def gdR (b : Nat) : R3 := ⟨⟨#[112]⟩, [⟨0, xT⟩], [qX b]⟩
def bdR : R3 := ⟨⟨#[112]⟩, [⟨0, xT⟩], []⟩
theorem gd_rule (b : Nat) : ruleB 1 (gdR b) = true := (show ruleB 1 (gdR b) = ruleB 1 (gdR 0) from rfl).trans (by decide +kernel)
theorem bd_rule : ruleB 1 bdR = true := by decide +kernel
theorem gd_vars (b : Nat) : vsT [] (termsR 1 (gdR b)) = [xS] := (show vsT [] (termsR 1 (gdR b)) = vsT [] (termsR 1 (gdR 0)) from rfl).trans (by decide +kernel)
theorem bd_vars : vsT [] (termsR 1 bdR) = [xS] := by decide +kernel
theorem gd_eq (b : Nat) : eqL 1 (gdR b).bd = [] := rfl
theorem gd_at (b : Nat) : atN (gdR b).bd = [xS] := (show atN (gdR b).bd = atN (gdR 0).bd from rfl).trans (by decide +kernel)
theorem itQ_nil : ∀ (k : Nat) (fs : List ByteArray), itQ [] k fs = fs
  | 0, _ => rfl
  | k + 1, fs => itQ_nil k fs
theorem lim_nil {f0 fs : List ByteArray} (h : Lim [] f0 fs) : fs = f0 := by
  obtain ⟨⟨k, e⟩, _⟩ := h
  rw [e, itQ_nil]
theorem gd_ok {b : Nat} {fs : List ByteArray} (h : Lim (eqL 1 (gdR b).bd) (atN (gdR b).bd) fs) : ruE 1 (gdR b) fs = 0 := by
  rw [gd_eq, gd_at] at h
  rw [lim_nil h]
  unfold ruE
  rw [gd_rule, gd_vars]
  decide +kernel
theorem bd_no {fs : List ByteArray} (h : Lim (eqL 1 bdR.bd) (atN bdR.bd) fs) : ruE 1 bdR fs = 73 := by
  have e : fs = [] := lim_nil h
  rw [e]
  unfold ruE
  rw [bd_rule, bd_vars]
  decide +kernel
theorem xT_wf : xT.wf := ⟨by decide, ⟨by decide, by decide, by decide⟩⟩
theorem e0_is (w : World) : EIs w 1 E0 none 0 := ⟨⟨⟨by decide, by decide⟩, by decide⟩, ⟨by decide, ⟨by decide, by decide, by decide⟩⟩, by decide, by decide, fun h => absurd (show (0 : Nat) < 0 from h) (by omega)⟩
theorem e0_small : smallE 1 E0 ∧ szD 1 E0 ≤ 1048576 := ⟨⟨show 0 ≤ 1048576 by decide, fun i hi => absurd (show i < 0 from hi) (by omega)⟩, show 1 ≤ 1048576 by decide⟩
theorem qX_small (b : Nat) : smallL 1 (qX b).x := ⟨show 1 ≤ 1048576 by decide, e0_small, e0_small⟩
theorem gd_small (b : Nat) : smallR 1 (gdR b) := ⟨show 1 ≤ 1048576 by decide, show 1 ≤ 1048576 by decide, fun y hy => by rw [List.mem_singleton.1 hy]; exact qX_small b, show 4 ≤ 1048576 by decide⟩
theorem bd_small : smallR 1 bdR := ⟨show 1 ≤ 1048576 by decide, show 0 ≤ 1048576 by decide, fun y hy => absurd hy (by simp [bdR]), show 1 ≤ 1048576 by decide⟩
theorem one_ls {α : Type} {f : α → List Value} {k : Nat} (hk0 : 0 < k) (hk : ∀ x, (f x).length = k) (x : α) {w : World} {g : Nat} {ty : TypeId} (h : RL w g ty (f x)) : Ls w (.slice (some ⟨g, 0, none⟩) [x].length 1) [x].length ([x].flatMap f) := by
  refine ls_of_range hk0 hk x (Nat.le_refl _) (by show 1 ≤ maxLen; decide) (World.rowIs.lt h) (fun i hi => ?_)
  have e : i = 0 := by simp only [List.length_cons, List.length_nil] at hi; omega
  subst e
  rw [Nat.zero_mul]
  exact RL.range h
theorem nil_lb (w : World) (d : Nat) : Lb w (.slice none 0 0) d [] := ⟨⟨by show 0 ≤ _; omega, none, 0, rfl, Nat.le_refl _, by decide, fun h => absurd (show (0 : Nat) < 0 from h) (by omega)⟩, fun y hy => by cases hy⟩
theorem nil_lf (w : World) : Lf w (.slice none 0 0) [] := ⟨⟨by show 0 ≤ _; omega, none, 0, rfl, Nat.le_refl _, by decide, fun h => absurd (show (0 : Nat) < 0 from h) (by omega)⟩, fun i hi => absurd (show i < 0 from hi) (by omega)⟩
theorem xA_la {w : World} {g : Nat} (h : RL w g 56 [.int .i8 0, .string xS, .int .i8 0, .int .i64 0, .string noS]) : La w (.slice (some ⟨g, 0, none⟩) 1 1) [⟨0, xT⟩] := ⟨one_ls (f := A5.cells) (k := 5) (by omega) (fun _ => rfl) ⟨0, xT⟩ h, fun t ht => by rw [List.mem_singleton.1 ht]; exact ⟨⟨by decide, by decide⟩, xT_wf⟩⟩
theorem xT_lt {w : World} {g : Nat} (h : RL w g 43 [.string xS, .int .i8 0, .int .i64 0, .string noS]) : Lt w (.slice (some ⟨g, 0, none⟩) 1 1) [xT] := ⟨one_ls (f := T.cells) (k := 4) (by omega) (fun _ => rfl) xT h, fun t ht => by rw [List.mem_singleton.1 ht]; exact xT_wf⟩
def qC (b : Nat) : List Value := [.int .i8 1, .string ⟨#[113]⟩, .slice (some ⟨b, 0, none⟩) 1 1, .int .i8 0, .int .i8 0, .string noS, .int .i8 0, .int .i64 0, .string noS, .slice none 0 0, .int .i8 0, .string noS, .int .i8 0, .int .i64 0, .string noS, .slice none 0 0]
theorem qX_lb {w : World} {g b : Nat} (h : RL w g 48 (qC b)) (ht : RL w b 43 [.string xS, .int .i8 0, .int .i64 0, .string noS]) : Lb w (.slice (some ⟨g, 0, none⟩) 1 1) 1 [qX b] := ⟨one_ls (f := XL.cells) (k := 16) (by omega) (fun _ => rfl) (qX b) h, fun y hy => by
  rw [List.mem_singleton.1 hy]
  exact ⟨⟨show (-128 : Int) ≤ 1 by decide, show (1 : Int) ≤ 127 by decide⟩, ⟨show (-128 : Int) ≤ 0 by decide, show (0 : Int) ≤ 127 by decide⟩, show 1 ≤ maxLen by decide, show 1 ≤ 281474976710656 by decide, xT_lt ht, e0_is w, e0_is w⟩⟩
set_option maxHeartbeats 6400000 in
set_option maxRecDepth 100000 in
theorem lives_any (w : World) (hG : KT w ∧ LX.Gl w) : Calls Tryz.prog 6 #[] w fun e w' => e = .returned (.bool true) ∧ Below w.heap.size w w' := by
  obtain ⟨A1, hA1⟩ : ∃ A, A = w.alloc (.cells #[.string ⟨#[88]⟩, .int .i8 0, .int .i64 0, .string ⟨#[]⟩] 43) := ⟨_, rfl⟩
  obtain ⟨A2, hA2⟩ : ∃ A, A = A1.alloc (.cells #[.string ⟨#[88]⟩, .int .i8 0, .int .i64 0, .string ⟨#[]⟩] 43) := ⟨_, rfl⟩
  obtain ⟨A3, hA3⟩ : ∃ A, A = A2.alloc (.cells #[.int .i8 1, .string ⟨#[113]⟩, .slice (some ⟨w.heap.size + 1, 0, none⟩) 1 1, .int .i8 0, .int .i8 0, .string ⟨#[]⟩, .int .i8 0, .int .i64 0, .string ⟨#[]⟩, .slice none 0 0, .int .i8 0, .string ⟨#[]⟩, .int .i8 0, .int .i64 0, .string ⟨#[]⟩, .slice none 0 0] 48) := ⟨_, rfl⟩
  obtain ⟨A4, hA4⟩ : ∃ A, A = A3.alloc (.cells #[.int .i8 0, .string ⟨#[88]⟩, .int .i8 0, .int .i64 0, .string ⟨#[]⟩] 56) := ⟨_, rfl⟩
  obtain ⟨A5, hA5⟩ : ∃ A, A = A4.alloc (.cells #[.int .i8 1, .string ⟨#[113]⟩, .slice (some ⟨w.heap.size + 1, 0, none⟩) 1 1, .int .i8 0, .int .i8 0, .string ⟨#[]⟩, .int .i8 0, .int .i64 0, .string ⟨#[]⟩, .slice none 0 0, .int .i8 0, .string ⟨#[]⟩, .int .i8 0, .int .i64 0, .string ⟨#[]⟩, .slice none 0 0] 48) := ⟨_, rfl⟩
  obtain ⟨A6, hA6⟩ : ∃ A, A = A5.alloc (.cells #[.string ⟨#[112]⟩, .slice (some ⟨w.heap.size + 1 + 1 + 1, 0, none⟩) 1 1, .slice (some ⟨w.heap.size + 1 + 1 + 1 + 1, 0, none⟩) 1 1] 53) := ⟨_, rfl⟩
  obtain ⟨A7, hA7⟩ : ∃ A, A = A6.alloc (.cells #[.int .i8 0, .string ⟨#[88]⟩, .int .i8 0, .int .i64 0, .string ⟨#[]⟩] 56) := ⟨_, rfl⟩
  obtain ⟨A8, hA8⟩ : ∃ A, A = A7.alloc (.cells #[.string ⟨#[112]⟩, .slice (some ⟨w.heap.size + 1 + 1 + 1 + 1 + 1 + 1, 0, none⟩) 1 1, .slice none 0 0] 53) := ⟨_, rfl⟩
  have z1 : A1.heap.size = w.heap.size + 1 := by rw [hA1]; simp
  have z2 : A2.heap.size = w.heap.size + 1 + 1 := by rw [hA2]; simp [z1]
  have z3 : A3.heap.size = w.heap.size + 1 + 1 + 1 := by rw [hA3]; simp [z2]
  have z4 : A4.heap.size = w.heap.size + 1 + 1 + 1 + 1 := by rw [hA4]; simp [z3]
  have z5 : A5.heap.size = w.heap.size + 1 + 1 + 1 + 1 + 1 := by rw [hA5]; simp [z4]
  have z6 : A6.heap.size = w.heap.size + 1 + 1 + 1 + 1 + 1 + 1 := by rw [hA6]; simp [z5]
  have z7 : A7.heap.size = w.heap.size + 1 + 1 + 1 + 1 + 1 + 1 + 1 := by rw [hA7]; simp [z6]
  have b8 : Below A7.heap.size A7 A8 := by rw [hA8]; exact belowA _
  have b7 : Below A6.heap.size A6 A8 := by have k : Below A6.heap.size A6 A7 := (by rw [hA7]; exact belowA _); exact k.trans (b8.mono k.size)
  have b6 : Below A5.heap.size A5 A8 := by have k : Below A5.heap.size A5 A6 := (by rw [hA6]; exact belowA _); exact k.trans (b7.mono k.size)
  have b5 : Below A4.heap.size A4 A8 := by have k : Below A4.heap.size A4 A5 := (by rw [hA5]; exact belowA _); exact k.trans (b6.mono k.size)
  have b4 : Below A3.heap.size A3 A8 := by have k : Below A3.heap.size A3 A4 := (by rw [hA4]; exact belowA _); exact k.trans (b5.mono k.size)
  have b3 : Below A2.heap.size A2 A8 := by have k : Below A2.heap.size A2 A3 := (by rw [hA3]; exact belowA _); exact k.trans (b4.mono k.size)
  have b2 : Below A1.heap.size A1 A8 := by have k : Below A1.heap.size A1 A2 := (by rw [hA2]; exact belowA _); exact k.trans (b3.mono k.size)
  have b1 : Below w.heap.size w A8 := by have k : Below w.heap.size w A1 := (by rw [hA1]; exact belowA _); exact k.trans (b2.mono k.size)
  have r1 : RL A8 (w.heap.size + 1) 43 [.string xS, .int .i8 0, .int .i64 0, .string noS] := by
    have := rl_new A1 #[.string ⟨#[88]⟩, .int .i8 0, .int .i64 0, .string ⟨#[]⟩] 43
    rw [← hA2, z1] at this
    exact RL.below this b3
  have r3 : RL A8 (w.heap.size + 1 + 1 + 1) 56 [.int .i8 0, .string xS, .int .i8 0, .int .i64 0, .string noS] := by
    have := rl_new A3 #[.int .i8 0, .string ⟨#[88]⟩, .int .i8 0, .int .i64 0, .string ⟨#[]⟩] 56
    rw [← hA4, z3] at this
    exact RL.below this b5
  have r4 : RL A8 (w.heap.size + 1 + 1 + 1 + 1) 48 (qC (w.heap.size + 1)) := by
    have := rl_new A4 #[.int .i8 1, .string ⟨#[113]⟩, .slice (some ⟨w.heap.size + 1, 0, none⟩) 1 1, .int .i8 0, .int .i8 0, .string ⟨#[]⟩, .int .i8 0, .int .i64 0, .string ⟨#[]⟩, .slice none 0 0, .int .i8 0, .string ⟨#[]⟩, .int .i8 0, .int .i64 0, .string ⟨#[]⟩, .slice none 0 0] 48
    rw [← hA5, z4] at this
    exact RL.below this b6
  have HR5 : Hid (RL A8 (w.heap.size + 1 + 1 + 1 + 1 + 1) 53 [.string ⟨#[112]⟩, .slice (some ⟨w.heap.size + 1 + 1 + 1, 0, none⟩) 1 1, .slice (some ⟨w.heap.size + 1 + 1 + 1 + 1, 0, none⟩) 1 1]) := by
    have := rl_new A5 #[.string ⟨#[112]⟩, .slice (some ⟨w.heap.size + 1 + 1 + 1, 0, none⟩) 1 1, .slice (some ⟨w.heap.size + 1 + 1 + 1 + 1, 0, none⟩) 1 1] 53
    rw [← hA6, z5] at this
    exact RL.below this b7
  have r6 : RL A8 (w.heap.size + 1 + 1 + 1 + 1 + 1 + 1) 56 [.int .i8 0, .string xS, .int .i8 0, .int .i64 0, .string noS] := by
    have := rl_new A6 #[.int .i8 0, .string ⟨#[88]⟩, .int .i8 0, .int .i64 0, .string ⟨#[]⟩] 56
    rw [← hA7, z6] at this
    exact RL.below this b8
  have HR7 : Hid (RL A8 (w.heap.size + 1 + 1 + 1 + 1 + 1 + 1 + 1) 53 [.string ⟨#[112]⟩, .slice (some ⟨w.heap.size + 1 + 1 + 1 + 1 + 1 + 1, 0, none⟩) 1 1, .slice none 0 0]) := by
    have := rl_new A7 #[.string ⟨#[112]⟩, .slice (some ⟨w.heap.size + 1 + 1 + 1 + 1 + 1 + 1, 0, none⟩) 1 1, .slice none 0 0] 53
    rw [← hA8, z7] at this
    exact this
  have HLB : Hid (Lb A8 (.slice (some ⟨w.heap.size + 1 + 1 + 1 + 1, 0, none⟩) 1 1) 1 [qX (w.heap.size + 1)]) := qX_lb r4 r1
  have HGD : Hid (∀ u, Below A8.heap.size A8 u → RIs u 1 (gdR (w.heap.size + 1)) ⟨some ⟨w.heap.size + 1 + 1 + 1, 0, none⟩, 1, some ⟨w.heap.size + 1 + 1 + 1 + 1, 0, none⟩, 1⟩) := fun u hu => RIs.below ⟨show 1 ≤ maxLen by decide, show 1 ≤ 281474976710656 by decide, show 1 ≤ 281474976710656 by decide, xA_la r3, HLB.out⟩ hu
  have HBD : Hid (∀ u, Below A8.heap.size A8 u → RIs u 1 bdR ⟨some ⟨w.heap.size + 1 + 1 + 1 + 1 + 1 + 1, 0, none⟩, 1, none, 0⟩) := fun u hu => RIs.below ⟨show 1 ≤ maxLen by decide, show 1 ≤ 281474976710656 by decide, show 0 ≤ 281474976710656 by decide, xA_la r6, nil_lb A8 1⟩ hu
  have HG : Hid (∀ u, Below A8.heap.size A8 u → KT u ∧ LX.Gl u) := fun u hu => ⟨(hG.1.below b1).below hu, (hG.2.below b1).below hu⟩
  have HB0 := Lib.hid b1
  obtain ⟨F, hF⟩ : ∃ F : R3 → List ByteArray, ∀ r, Lim (eqL 1 r.bd) (atN r.bd) (F r) := Classical.axiomOfChoice (fun (r : R3) => lim_ex (eqL 1 r.bd) (atN r.bd) (eqL_ok _ _))
  have HF := Lib.hid hF
  have x0 := HR5.out.at (j := 2) rfl
  have HLM : Hid (Calls Tryz.prog 7 #[.slice (some ⟨w.heap.size + 1 + 1 + 1 + 1, 0, none⟩) 1 1] A8 fun e w' => LmP A8.heap.size (eqL 1 (gdR (w.heap.size + 1)).bd) (atN (gdR (w.heap.size + 1)).bd) A8 e w') := by
    have hb := (gd_small (w.heap.size + 1)).body
    exact limited_any 0 _ [qX (w.heap.size + 1)] A8 HLB.out hb.ts hb.av hb.ln hb.sz
  clear z1 z2 z3 z4 z5 z6 z7 b1 b2 b3 b4 b5 b6 b7 b8 r1 r3 r4 r6 hG hF HLB
  go_enter Tryz.func6, Tryz.ntmps6
  go_upto_region 5 with fail
  rw [← hA1, ← hA2, ← hA3, ← hA4, ← hA5, ← hA6, ← hA7, ← hA8]
  clear hA1 hA2 hA3 hA4 hA5 hA6 hA7 hA8
  go_wp2_with fail
  clear x0
  refine HLM.out.mono ?_
  rintro e w1 ⟨sv, fs, rfl, own1, b1, it1, st1⟩
  obtain rfl : fs = [xS] := by
    have h : Lim (eqL 1 (gdR (w.heap.size + 1)).bd) (atN (gdR (w.heap.size + 1)).bd) fs := ⟨it1, st1⟩
    rw [gd_eq, gd_at] at h
    exact lim_nil h
  have B1 := Lib.hid b1
  obtain ⟨sa, sc, rfl, hsc1, hsc2, hsat⟩ := ls_str (ls_own own1)
  obtain ⟨sg, so, hsa, hsg, hcell⟩ := hsat (by decide)
  subst hsa
  have HCE : Hid (∀ u, Below w1.heap.size w1 u → u.cell? ⟨sg, so, none⟩ = some (.string ⟨#[88]⟩)) := fun u hu => by
    rw [hu.cell (p := ⟨sg, so, none⟩) hsg]
    exact hcell 0 (by decide)
  have hlen1 : (Value.slice (some ⟨sg, so, none⟩) ([xS] : List ByteArray).length sc) = .slice (some ⟨sg, so, none⟩) 1 sc := rfl
  rw [hlen1]
  have HC1 := Lib.hid (ckRule_any 0 (gdR (w.heap.size + 1)) ⟨some ⟨w.heap.size + 1 + 1 + 1, 0, none⟩, 1, some ⟨w.heap.size + 1 + 1 + 1 + 1, 0, none⟩, 1⟩ w1 (HG.out w1 b1).1 (HGD.out w1 b1) (gd_small _) (F (gdR (w.heap.size + 1))) (HF.out _))
  rw [gd_ok (HF.out _)] at HC1
  have hv1 : (gdR (w.heap.size + 1)).val ⟨some ⟨w.heap.size + 1 + 1 + 1, 0, none⟩, 1, some ⟨w.heap.size + 1 + 1 + 1 + 1, 0, none⟩, 1⟩ = .agg #[.string ⟨#[112]⟩, .slice (some ⟨w.heap.size + 1 + 1 + 1, 0, none⟩) 1 1, .slice (some ⟨w.heap.size + 1 + 1 + 1 + 1, 0, none⟩) 1 1] := rfl
  rw [hv1] at HC1
  have y0 := RL.at (RL.below HR5.out b1) (j := 0) rfl
  have y1 := RL.at (RL.below HR5.out b1) (j := 1) rfl
  have y2 := RL.at (RL.below HR5.out b1) (j := 2) rfl
  clear own1 b1 it1 st1 hsc2 hcell HLM hlen1 hv1
  go_wp2_with fail
  clear y0 y1 y2
  refine HC1.out.mono ?_
  rintro e w2 ⟨rfl, b2⟩
  have B2 : Hid (Below A8.heap.size A8 w2) := B1.out.trans (b2.mono B1.out.size)
  have B12 := Lib.hid b2
  have HC2 := Lib.hid (ckRule_any 0 bdR ⟨some ⟨w.heap.size + 1 + 1 + 1 + 1 + 1 + 1, 0, none⟩, 1, none, 0⟩ w2 (HG.out w2 B2.out).1 (HBD.out w2 B2.out) bd_small (F bdR) (HF.out _))
  rw [bd_no (HF.out _)] at HC2
  have hv2 : bdR.val ⟨some ⟨w.heap.size + 1 + 1 + 1 + 1 + 1 + 1, 0, none⟩, 1, none, 0⟩ = .agg #[.string ⟨#[112]⟩, .slice (some ⟨w.heap.size + 1 + 1 + 1 + 1 + 1 + 1, 0, none⟩) 1 1, .slice none 0 0] := rfl
  rw [hv2] at HC2
  have y0 := RL.at (RL.below HR7.out B2.out) (j := 0) rfl
  have y1 := RL.at (RL.below HR7.out B2.out) (j := 1) rfl
  have y2 := RL.at (RL.below HR7.out B2.out) (j := 2) rfl
  clear b2 HC1 hv2
  go_wp2_with fail
  clear y0 y1 y2
  refine HC2.out.mono ?_
  rintro e w3 ⟨rfl, b3⟩
  have B3 : Hid (Below A8.heap.size A8 w3) := B2.out.trans (b3.mono B2.out.size)
  have s0 := HCE.out w3 (B12.out.trans (b3.mono B12.out.size))
  have y0 := RL.at (RL.below HR5.out B3.out) (j := 0) rfl
  have y1 := RL.at (RL.below HR5.out B3.out) (j := 1) rfl
  have y2 := RL.at (RL.below HR5.out B3.out) (j := 2) rfl
  have v0 := RL.at (RL.below HR7.out B3.out) (j := 0) rfl
  have v1 := RL.at (RL.below HR7.out B3.out) (j := 1) rfl
  have v2 := RL.at (RL.below HR7.out B3.out) (j := 2) rfl
  have bA := belowA (w := w3) (.cells #[.string ⟨#[112]⟩, .slice (some ⟨w.heap.size + 1 + 1 + 1, 0, none⟩) 1 1, .slice (some ⟨w.heap.size + 1 + 1 + 1 + 1, 0, none⟩) 1 1, .string ⟨#[112]⟩, .slice (some ⟨w.heap.size + 1 + 1 + 1 + 1 + 1 + 1, 0, none⟩) 1 1, .slice none 0 0] 53)
  have rA := rl_new w3 #[.string ⟨#[112]⟩, .slice (some ⟨w.heap.size + 1 + 1 + 1, 0, none⟩) 1 1, .slice (some ⟨w.heap.size + 1 + 1 + 1 + 1, 0, none⟩) 1 1, .string ⟨#[112]⟩, .slice (some ⟨w.heap.size + 1 + 1 + 1 + 1 + 1 + 1, 0, none⟩) 1 1, .slice none 0 0] 53
  have BA : Hid (Below A8.heap.size A8 (w3.alloc (.cells #[.string ⟨#[112]⟩, .slice (some ⟨w.heap.size + 1 + 1 + 1, 0, none⟩) 1 1, .slice (some ⟨w.heap.size + 1 + 1 + 1 + 1, 0, none⟩) 1 1, .string ⟨#[112]⟩, .slice (some ⟨w.heap.size + 1 + 1 + 1 + 1 + 1 + 1, 0, none⟩) 1 1, .slice none 0 0] 53))) := B3.out.trans (bA.mono B3.out.size)
  have HJ : Hid (Calls Tryz.prog 16 #[.slice (some ⟨w3.heap.size, 0, none⟩) 2 2, .slice none 0 0] (w3.alloc (.cells #[.string ⟨#[112]⟩, .slice (some ⟨w.heap.size + 1 + 1 + 1, 0, none⟩) 1 1, .slice (some ⟨w.heap.size + 1 + 1 + 1 + 1, 0, none⟩) 1 1, .string ⟨#[112]⟩, .slice (some ⟨w.heap.size + 1 + 1 + 1 + 1 + 1 + 1, 0, none⟩) 1 1, .slice none 0 0] 53)) fun e w' => e = .returned (.int .i64 73) ∧ Below (w3.alloc (.cells #[.string ⟨#[112]⟩, .slice (some ⟨w.heap.size + 1 + 1 + 1, 0, none⟩) 1 1, .slice (some ⟨w.heap.size + 1 + 1 + 1 + 1, 0, none⟩) 1 1, .string ⟨#[112]⟩, .slice (some ⟨w.heap.size + 1 + 1 + 1 + 1 + 1 + 1, 0, none⟩) 1 1, .slice none 0 0] 53)).heap.size (w3.alloc (.cells #[.string ⟨#[112]⟩, .slice (some ⟨w.heap.size + 1 + 1 + 1, 0, none⟩) 1 1, .slice (some ⟨w.heap.size + 1 + 1 + 1 + 1, 0, none⟩) 1 1, .string ⟨#[112]⟩, .slice (some ⟨w.heap.size + 1 + 1 + 1 + 1 + 1 + 1, 0, none⟩) 1 1, .slice none 0 0] 53)) w') := by
    have hLr : Lr (w3.alloc (.cells #[.string ⟨#[112]⟩, .slice (some ⟨w.heap.size + 1 + 1 + 1, 0, none⟩) 1 1, .slice (some ⟨w.heap.size + 1 + 1 + 1 + 1, 0, none⟩) 1 1, .string ⟨#[112]⟩, .slice (some ⟨w.heap.size + 1 + 1 + 1 + 1 + 1 + 1, 0, none⟩) 1 1, .slice none 0 0] 53)) (.slice (some ⟨w3.heap.size, 0, none⟩) 2 2) 1 [⟨gdR (w.heap.size + 1), ⟨some ⟨w.heap.size + 1 + 1 + 1, 0, none⟩, 1, some ⟨w.heap.size + 1 + 1 + 1 + 1, 0, none⟩, 1⟩⟩, ⟨bdR, ⟨some ⟨w.heap.size + 1 + 1 + 1 + 1 + 1 + 1, 0, none⟩, 1, none, 0⟩⟩] := by
      refine ⟨ls_of_range (f := XR.cells) (k := 3) (by omega) (fun _ => rfl) XR0 (Nat.le_refl _) (by show 2 ≤ maxLen; decide) (World.rowIs.lt rA) (fun i hi => ?_), fun i hi => ?_⟩
      · match i, hi with
        | 0, _ =>
          intro j v hj
          match j, hj with
          | 0, hj => cases hj; exact rA.at (j := 0) rfl
          | 1, hj => cases hj; exact rA.at (j := 1) rfl
          | 2, hj => cases hj; exact rA.at (j := 2) rfl
        | 1, _ =>
          intro j v hj
          match j, hj with
          | 0, hj => cases hj; exact rA.at (j := 3) rfl
          | 1, hj => cases hj; exact rA.at (j := 4) rfl
          | 2, hj => cases hj; exact rA.at (j := 5) rfl
      · match i, hi with
        | 0, _ => exact HGD.out _ BA.out
        | 1, _ => exact HBD.out _ BA.out
    have hj := ckJob_any 0 F HF.out [⟨gdR (w.heap.size + 1), ⟨some ⟨w.heap.size + 1 + 1 + 1, 0, none⟩, 1, some ⟨w.heap.size + 1 + 1 + 1 + 1, 0, none⟩, 1⟩⟩, ⟨bdR, ⟨some ⟨w.heap.size + 1 + 1 + 1 + 1 + 1 + 1, 0, none⟩, 1, none, 0⟩⟩] [] (some ⟨w3.heap.size, 0, none⟩) 2 (.slice none 0 0) _ (HG.out _ BA.out) hLr (nil_lf _) (fun i hi => by
      match i, hi with
      | 0, _ => exact gd_small _
      | 1, _ => exact bd_small) (by show 3 ≤ _; decide)
    have e : jobE 1 F [⟨gdR (w.heap.size + 1), ⟨some ⟨w.heap.size + 1 + 1 + 1, 0, none⟩, 1, some ⟨w.heap.size + 1 + 1 + 1 + 1, 0, none⟩, 1⟩⟩, ⟨bdR, ⟨some ⟨w.heap.size + 1 + 1 + 1 + 1 + 1 + 1, 0, none⟩, 1, none, 0⟩⟩] [] = 73 := by
      unfold jobE jrE jrE
      simp only [gd_ok (HF.out _), bd_no (HF.out _)]
      simp
    rw [e] at hj
    exact hj
  clear b3 HC2 bA rA HCE
  go_wp2_with fail
  clear y0 y1 y2 v0 v1 v2 s0
  refine HJ.out.mono ?_
  rintro e w4 ⟨rfl, b4⟩
  have B4 : Hid (Below w.heap.size w w4) := HB0.out.trans ((BA.out.trans (b4.mono BA.out.size)).mono HB0.out.size)
  clear b4 HJ BA
  go_wp2
  go_ret
  exact ⟨by first | rfl | simp, B4.out⟩
end Go.Proofs.YtkfajjnaadmobaaGreatDoor
end
