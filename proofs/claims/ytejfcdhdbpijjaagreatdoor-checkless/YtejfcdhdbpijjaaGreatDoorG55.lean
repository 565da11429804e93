import Derived.Test.YtejfcdhdbpijjaaGreatDoorG37
import Derived.Test.YtejfcdhdbpijjaaGreatDoorG52
section
namespace Go.Proofs.YtejfcdhdbpijjaaGreatDoor
open Go.RowKit Go.Maps
set_option linter.unusedVariables false
set_option linter.unusedSimpArgs false
attribute [local go_sem ↓] Go.wp_at_zero Go.wp_at_succ

def xS : ByteArray := ⟨#[88]⟩
def xT : T := ⟨xS, V0⟩
def qX (b : Nat) : XL := ⟨⟨1, ⟨#[113]⟩, [xT], 0, E0, E0⟩, ⟨some ⟨b, 0, none⟩, 1, none, 0, none, 0⟩⟩
def gdR (b : Nat) : R3 := ⟨⟨#[112]⟩, [⟨0, xT⟩], [qX b]⟩
def bdR : R3 := ⟨⟨#[112]⟩, [⟨0, xT⟩], []⟩
theorem gd_rule (b : Nat) : ruleB 1 (gdR b) = true := (show ruleB 1 (gdR b) = ruleB 1 (gdR 0) from rfl).trans (by decide +kernel)
theorem bd_rule : ruleB 1 bdR = true := by decide +kernel
theorem gd_vars (b : Nat) : vsT [] (termsR 1 (gdR b)) = [xS] := (show vsT [] (termsR 1 (gdR b)) = vsT [] (termsR 1 (gdR 0)) from rfl).trans (by decide +kernel)
theorem bd_vars : vsT [] (termsR 1 bdR) = [xS] := by decide +kernel
theorem gd_eq (b : Nat) : eqL 1 (gdR b).bd = [] := rfl
theorem gd_at (b : Nat) : atN (gdR b).bd = [xS] := (show atN (gdR b).bd = atN (gdR 0).bd from rfl).trans (by decide +kernel)
theorem itQ_nil : ∀ (k : Nat) (fs : List ByteArray), itQ [] k fs = fs
  | 0, _ => rfl
  | k + 1, fs => itQ_nil k fs
theorem lim_nil {f0 fs : List ByteArray} (h : Lim [] f0 fs) : fs = f0 := by
  obtain ⟨⟨k, e⟩, _⟩ := h
  rw [e, itQ_nil]
theorem gd_ok {b : Nat} {fs : List ByteArray} (h : Lim (eqL 1 (gdR b).bd) (atN (gdR b).bd) fs) : ruE 1 (gdR b) fs = 0 := by
  rw [gd_eq, gd_at] at h
  rw [lim_nil h]
  unfold ruE
  rw [gd_rule, gd_vars]
  decide +kernel
theorem bd_no {fs : List ByteArray} (h : Lim (eqL 1 bdR.bd) (atN bdR.bd) fs) : ruE 1 bdR fs = 73 := by
  have e : fs = [] := lim_nil h
  rw [e]
  unfold ruE
  rw [bd_rule, bd_vars]
  decide +kernel
theorem xT_wf : xT.wf := ⟨by decide, ⟨by decide, by decide, by decide⟩⟩
theorem e0_is (w : World) : EIs w 1 E0 none 0 := ⟨⟨⟨by decide, by decide⟩, by decide⟩, ⟨by decide, ⟨by decide, by decide, by decide⟩⟩, by decide, by decide, fun h => absurd (show (0 : Nat) < 0 from h) (by omega)⟩
theorem e0_small : smallE 1 E0 ∧ szD 1 E0 ≤ 1048576 := ⟨⟨show 0 ≤ 1048576 by decide, fun i hi => absurd (show i < 0 from hi) (by omega)⟩, show 1 ≤ 1048576 by decide⟩
theorem qX_small (b : Nat) : smallL 1 (qX b).x := ⟨show 1 ≤ 1048576 by decide, e0_small, e0_small⟩
theorem gd_small (b : Nat) : smallR 1 (gdR b) := ⟨show 1 ≤ 1048576 by decide, show 1 ≤ 1048576 by decide, fun y hy => by rw [List.mem_singleton.1 hy]; exact qX_small b, show 4 ≤ 1048576 by decide⟩
theorem bd_small : smallR 1 bdR := ⟨show 1 ≤ 1048576 by decide, show 0 ≤ 1048576 by decide, fun y hy => absurd hy (by simp [bdR]), show 1 ≤ 1048576 by decide⟩
theorem one_ls {α : Type} {f : α → List Value} {k : Nat} (hk0 : 0 < k) (hk : ∀ x, (f x).length = k) (x : α) {w : World} {g : Nat} {ty : TypeId} (h : RL w g ty (f x)) : Ls w (.slice (some ⟨g, 0, none⟩) [x].length 1) [x].length ([x].flatMap f) := by
  refine ls_of_range hk0 hk x (Nat.le_refl _) (by show 1 ≤ maxLen; decide) (World.rowIs.lt h) (fun i hi => ?_)
  have e : i = 0 := by simp only [List.length_cons, List.length_nil] at hi; omega
  subst e
  rw [Nat.zero_mul]
  exact RL.range h
theorem nil_lb (w : World) (d : Nat) : Lb w (.slice none 0 0) d [] := ⟨⟨by show 0 ≤ _; omega, none, 0, rfl, Nat.le_refl _, by decide, fun h => absurd (show (0 : Nat) < 0 from h) (by omega)⟩, fun y hy => by cases hy⟩
theorem nil_lf (w : World) : Lf w (.slice none 0 0) [] := ⟨⟨by show 0 ≤ _; omega, none, 0, rfl, Nat.le_refl _, by decide, fun h => absurd (show (0 : Nat) < 0 from h) (by omega)⟩, fun i hi => absurd (show i < 0 from hi) (by omega)⟩
theorem xA_la {w : World} {g : Nat} (h : RL w g 68 [.int .i8 0, .string xS, .int .i8 0, .int .i64 0, .string noS]) : La w (.slice (some ⟨g, 0, none⟩) 1 1) [⟨0, xT⟩] := ⟨one_ls (f := A5.cells) (k := 5) (by omega) (fun _ => rfl) ⟨0, xT⟩ h, fun t ht => by rw [List.mem_singleton.1 ht]; exact ⟨⟨by decide, by decide⟩, xT_wf⟩⟩
theorem xT_lt {w : World} {g : Nat} (h : RL w g 57 [.string xS, .int .i8 0, .int .i64 0, .string noS]) : Lt w (.slice (some ⟨g, 0, none⟩) 1 1) [xT] := ⟨one_ls (f := T.cells) (k := 4) (by omega) (fun _ => rfl) xT h, fun t ht => by rw [List.mem_singleton.1 ht]; exact xT_wf⟩
def qC (b : Nat) : List Value := [.int .i8 1, .string ⟨#[113]⟩, .slice (some ⟨b, 0, none⟩) 1 1, .int .i8 0, .int .i8 0, .string noS, .int .i8 0, .int .i64 0, .string noS, .slice none 0 0, .int .i8 0, .string noS, .int .i8 0, .int .i64 0, .string noS, .slice none 0 0]
theorem qX_lb {w : World} {g b : Nat} (h : RL w g 65 (qC b)) (ht : RL w b 57 [.string xS, .int .i8 0, .int .i64 0, .string noS]) : Lb w (.slice (some ⟨g, 0, none⟩) 1 1) 1 [qX b] := ⟨one_ls (f := XL.cells) (k := 16) (by omega) (fun _ => rfl) (qX b) h, fun y hy => by
  rw [List.mem_singleton.1 hy]
  exact ⟨⟨show (-128 : Int) ≤ 1 by decide, show (1 : Int) ≤ 127 by decide⟩, ⟨show (-128 : Int) ≤ 0 by decide, show (0 : Int) ≤ 127 by decide⟩, show 1 ≤ maxLen by decide, show 1 ≤ 281474976710656 by decide, xT_lt ht, e0_is w, e0_is w⟩⟩
set_option maxHeartbeats 6400000 in
set_option maxRecDepth 100000 in
theorem lives_any (w : World) (hG : KT w ∧ LX.Gl w) : Calls Tryz.prog 6 #[] w fun e w' => e = .returned (.bool true) ∧ Below w.heap.size w w' := by
  obtain ⟨A1, hA1⟩ : ∃ A, A = w.alloc (.cells #[.string ⟨#[88]⟩, .int .i8 0, .int .i64 0, .string ⟨#[]⟩] 57) := ⟨_, rfl⟩
  obtain ⟨A2, hA2⟩ : ∃ A, A = A1.alloc (.cells #[.string ⟨#[88]⟩, .int .i8 0, .int .i64 0, .string ⟨#[]⟩] 57) := ⟨_, rfl⟩
  obtain ⟨A3, hA3⟩ : ∃ A, A = A2.alloc (.cells #[.int .i8 1, .string ⟨#[113]⟩, .slice (some ⟨w.heap.size + 1, 0, none⟩) 1 1, .int .i8 0, .int .i8 0, .string ⟨#[]⟩, .int .i8 0, .int .i64 0, .string ⟨#[]⟩, .slice none 0 0, .int .i8 0, .string ⟨#[]⟩, .int .i8 0, .int .i64 0, .string ⟨#[]⟩, .slice none 0 0] 65) := ⟨_, rfl⟩
  obtain ⟨A4, hA4⟩ : ∃ A, A = A3.alloc (.cells #[.int .i8 0, .string ⟨#[88]⟩, .int .i8 0, .int .i64 0, .string ⟨#[]⟩] 68) := ⟨_, rfl⟩
  obtain ⟨A5, hA5⟩ : ∃ A, A = A4.alloc (.cells #[.int .i8 1, .string ⟨#[113]⟩, .slice (some ⟨w.heap.size + 1, 0, none⟩) 1 1, .int .i8 0, .int .i8 0, .string ⟨#[]⟩, .int .i8 0, .int .i64 0, .string ⟨#[]⟩, .slice none 0 0, .int .i8 0, .string ⟨#[]⟩, .int .i8 0, .int .i64 0, .string ⟨#[]⟩, .slice none 0 0] 65) := ⟨_, rfl⟩
  obtain ⟨A6, hA6⟩ : ∃ A, A = A5.alloc (.cells #[.string ⟨#[112]⟩, .slice (some ⟨w.heap.size + 1 + 1 + 1, 0, none⟩) 1 1, .slice (some ⟨w.heap.size + 1 + 1 + 1 + 1, 0, none⟩) 1 1] 72) := ⟨_, rfl⟩
  obtain ⟨A7, hA7⟩ : ∃ A, A = A6.alloc (.cells #[.int .i8 0, .string ⟨#[88]⟩, .int .i8 0, .int .i64 0, .string ⟨#[]⟩] 68) := ⟨_, rfl⟩
  obtain ⟨A8, hA8⟩ : ∃ A, A = A7.alloc (.cells #[.string ⟨#[112]⟩, .slice (some ⟨w.heap.size + 1 + 1 + 1 + 1 + 1 + 1, 0, none⟩) 1 1, .slice none 0 0] 72) := ⟨_, rfl⟩
  have z1 : A1.heap.size = w.heap.size + 1 := by rw [hA1]; simp
  have z2 : A2.heap.size = w.heap.size + 1 + 1 := by rw [hA2]; simp [z1]
  have z3 : A3.heap.size = w.heap.size + 1 + 1 + 1 := by rw [hA3]; simp [z2]
  have z4 : A4.heap.size = w.heap.size + 1 + 1 + 1 + 1 := by rw [hA4]; simp [z3]
  have z5 : A5.heap.size = w.heap.size + 1 + 1 + 1 + 1 + 1 := by rw [hA5]; simp [z4]
  have z6 : A6.heap.size = w.heap.size + 1 + 1 + 1 + 1 + 1 + 1 := by rw [hA6]; simp [z5]
  have z7 : A7.heap.size = w.heap.size + 1 + 1 + 1 + 1 + 1 + 1 + 1 := by rw [hA7]; simp [z6]
  have b8 : Below A7.heap.size A7 A8 := by rw [hA8]; exact belowA _
  have b7 : Below A6.heap.size A6 A8 := by have k : Below A6.heap.size A6 A7 := (by rw [hA7]; exact belowA _); exact k.trans (b8.mono k.size)
  have b6 : Below A5.heap.size A5 A8 := by have k : Below A5.heap.size A5 A6 := (by rw [hA6]; exact belowA _); exact k.trans (b7.mono k.size)
  have b5 : Below A4.heap.size A4 A8 := by have k : Below A4.heap.size A4 A5 := (by rw [hA5]; exact belowA _); exact k.trans (b6.mono k.size)
  have b4 : Below A3.heap.size A3 A8 := by have k : Below A3.heap.size A3 A4 := (by rw [hA4]; exact belowA _); exact k.trans (b5.mono k.size)
  have b3 : Below A2.heap.size A2 A8 := by have k : Below A2.heap.size A2 A3 := (by rw [hA3]; exact belowA _); exact k.trans (b4.mono k.size)
  have b2 : Below A1.heap.size A1 A8 := by have k : Below A1.heap.size A1 A2 := (by rw [hA2]; exact belowA _); exact k.trans (b3.mono k.size)
  have b1 : Below w.heap.size w A8 := by have k : Below w.heap.size w A1 := (by rw [hA1]; exact belowA _); exact k.trans (b2.mono k.size)
  have r1 : RL A8 (w.heap.size + 1) 57 [.string xS, .int .i8 0, .int .i64 0, .string noS] := by
    have := rl_new A1 #[.string ⟨#[88]⟩, .int .i8 0, .int .i64 0, .string ⟨#[]⟩] 57
    rw [← hA2, z1] at this
    exact RL.below this b3
  have r3 : RL A8 (w.heap.size + 1 + 1 + 1) 68 [.int .i8 0, .string xS, .int .i8 0, .int .i64 0, .string noS] := by
    have := rl_new A3 #[.int .i8 0, .string ⟨#[88]⟩, .int .i8 0, .int .i64 0, .string ⟨#[]⟩] 68
    rw [← hA4, z3] at this
    exact RL.below this b5
  have r4 : RL A8 (w.heap.size + 1 + 1 + 1 + 1) 65 (qC (w.heap.size + 1)) := by
    have := rl_new A4 #[.int .i8 1, .string ⟨#[113]⟩, .slice (some ⟨w.heap.size + 1, 0, none⟩) 1 1, .int .i8 0, .int .i8 0, .string ⟨#[]⟩, .int .i8 0, .int .i64 0, .string ⟨#[]⟩, .slice none 0 0, .int .i8 0, .string ⟨#[]⟩, .int .i8 0, .int .i64 0, .string ⟨#[]⟩, .slice none 0 0] 65
    rw [← hA5, z4] at this
    exact RL.below this b6
  have HR5 : Hid (RL A8 (w.heap.size + 1 + 1 + 1 + 1 + 1) 72 [.string ⟨#[112]⟩, .slice (some ⟨w.heap.size + 1 + 1 + 1, 0, none⟩) 1 1, .slice (some ⟨w.heap.size + 1 + 1 + 1 + 1, 0, none⟩) 1 1]) := by
    have := rl_new A5 #[.string ⟨#[112]⟩, .slice (some ⟨w.heap.size + 1 + 1 + 1, 0, none⟩) 1 1, .slice (some ⟨w.heap.size + 1 + 1 + 1 + 1, 0, none⟩) 1 1] 72
    rw [← hA6, z5] at this
    exact RL.below this b7
  have r6 : RL A8 (w.heap.size + 1 + 1 + 1 + 1 + 1 + 1) 68 [.int .i8 0, .string xS, .int .i8 0, .int .i64 0, .string noS] := by
    have := rl_new A6 #[.int .i8 0, .string ⟨#[88]⟩, .int .i8 0, .int .i64 0, .string ⟨#[]⟩] 68
    rw [← hA7, z6] at this
    exact RL.below this b8
  have HR7 : Hid (RL A8 (w.heap.size + 1 + 1 + 1 + 1 + 1 + 1 + 1) 72 [.string ⟨#[112]⟩, .slice (some ⟨w.heap.size + 1 + 1 + 1 + 1 + 1 + 1, 0, none⟩) 1 1, .slice none 0 0]) := by
    have := rl_new A7 #[.string ⟨#[112]⟩, .slice (some ⟨w.heap.size + 1 + 1 + 1 + 1 + 1 + 1, 0, none⟩) 1 1, .slice none 0 0] 72
    rw [← hA8, z7] at this
    exact this
  have HLB : Hid (Lb A8 (.slice (some ⟨w.heap.size + 1 + 1 + 1 + 1, 0, none⟩) 1 1) 1 [qX (w.heap.size + 1)]) := qX_lb r4 r1
  have HGD : Hid (∀ u, Below A8.heap.size A8 u → RIs u 1 (gdR (w.heap.size + 1)) ⟨some ⟨w.heap.size + 1 + 1 + 1, 0, none⟩, 1, some ⟨w.heap.size + 1 + 1 + 1 + 1, 0, none⟩, 1⟩) := fun u hu => RIs.below ⟨show 1 ≤ maxLen by decide, show 1 ≤ 281474976710656 by decide, show 1 ≤ 281474976710656 by decide, xA_la r3, HLB.out⟩ hu
  have HBD : Hid (∀ u, Below A8.heap.size A8 u → RIs u 1 bdR ⟨some ⟨w.heap.size + 1 + 1 + 1 + 1 + 1 + 1, 0, none⟩, 1, none, 0⟩) := fun u hu => RIs.below ⟨show 1 ≤ maxLen by decide, show 1 ≤ 281474976710656 by decide, show 0 ≤ 281474976710656 by decide, xA_la r6, nil_lb A8 1⟩ hu
  have HG : Hid (∀ u, Below A8.heap.size A8 u → KT u ∧ LX.Gl u) := fun u hu => ⟨(hG.1.below b1).below hu, (hG.2.below b1).below hu⟩
  have HB0 := Lib.hid b1
  obtain ⟨F, hF⟩ : ∃ F : R3 → List ByteArray, ∀ r, Lim (eqL 1 r.bd) (atN r.bd) (F r) := Classical.axiomOfChoice (fun (r : R3) => lim_ex (eqL 1 r.bd) (atN r.bd) (eqL_ok _ _))
  have HF := Lib.hid hF
  have x0 := HR5.out.at (j := 2) rfl
  have HLM : Hid (Calls Tryz.prog 15 #[.slice (some ⟨w.heap.size + 1 + 1 + 1 + 1, 0, none⟩) 1 1] A8 fun e w' => LmP A8.heap.size (eqL 1 (gdR (w.heap.size + 1)).bd) (atN (gdR (w.heap.size + 1)).bd) A8 e w') := by
    have hb := (gd_small (w.heap.size + 1)).body
    exact limited_any 0 _ [qX (w.heap.size + 1)] A8 HLB.out hb.ts hb.av hb.ln hb.sz
  clear z1 z2 z3 z4 z5 z6 z7 b1 b2 b3 b4 b5 b6 b7 b8 r1 r3 r4 r6 hG hF HLB
  go_enter Tryz.func6, Tryz.ntmps6
  go_upto_region 5 with fail
  rw [← hA1, ← hA2, ← hA3, ← hA4, ← hA5, ← hA6, ← hA7, ← hA8]
  clear hA1 hA2 hA3 hA4 hA5 hA6 hA7 hA8
  go_wp2_with fail
  clear x0
  refine HLM.out.mono ?_
  rintro e w1 ⟨sv, fs, rfl, own1, b1, it1, st1⟩
  obtain rfl : fs = [xS] := by
    have h : Lim (eqL 1 (gdR (w.heap.size + 1)).bd) (atN (gdR (w.heap.size + 1)).bd) fs := ⟨it1, st1⟩
    rw [gd_eq, gd_at] at h
    exact lim_nil h
  have B1 := Lib.hid b1
  obtain ⟨sa, sc, rfl, hsc1, hsc2, hsat⟩ := ls_str (ls_own own1)
  obtain ⟨sg, so, hsa, hsg, hcell⟩ := hsat (by decide)
  subst hsa
  have HCE : Hid (∀ u, Below w1.heap.size w1 u → u.cell? ⟨sg, so, none⟩ = some (.string ⟨#[88]⟩)) := fun u hu => by
    rw [hu.cell (p := ⟨sg, so, none⟩) hsg]
    exact hcell 0 (by decide)
  have hlen1 : (Value.slice (some ⟨sg, so, none⟩) ([xS] : List ByteArray).length sc) = .slice (some ⟨sg, so, none⟩) 1 sc := rfl
  rw [hlen1]
  have HC1 := Lib.hid (ckRule_any 0 (gdR (w.heap.size + 1)) ⟨some ⟨w.heap.size + 1 + 1 + 1, 0, none⟩, 1, some ⟨w.heap.size + 1 + 1 + 1 + 1, 0, none⟩, 1⟩ w1 (HG.out w1 b1).1 (HGD.out w1 b1) (gd_small _) (F (gdR (w.heap.size + 1))) (HF.out _))
  rw [gd_ok (HF.out _)] at HC1
  have hv1 : (gdR (w.heap.size + 1)).val ⟨some ⟨w.heap.size + 1 + 1 + 1, 0, none⟩, 1, some ⟨w.heap.size + 1 + 1 + 1 + 1, 0, none⟩, 1⟩ = .agg #[.string ⟨#[112]⟩, .slice (some ⟨w.heap.size + 1 + 1 + 1, 0, none⟩) 1 1, .slice (some ⟨w.heap.size + 1 + 1 + 1 + 1, 0, none⟩) 1 1] := rfl
  rw [hv1] at HC1
  have y0 := RL.at (RL.below HR5.out b1) (j := 0) rfl
  have y1 := RL.at (RL.below HR5.out b1) (j := 1) rfl
  have y2 := RL.at (RL.below HR5.out b1) (j := 2) rfl
  clear own1 b1 it1 st1 hsc2 hcell HLM hlen1 hv1
  go_wp2_with fail
  clear y0 y1 y2
  refine HC1.out.mono ?_
  rintro e w2 ⟨rfl, b2⟩
  have B2 : Hid (Below A8.heap.size A8 w2) := B1.out.trans (b2.mono B1.out.size)
  have B12 := Lib.hid b2
  have HC2 := Lib.hid (ckRule_any 0 bdR ⟨some ⟨w.heap.size + 1 + 1 + 1 + 1 + 1 + 1, 0, none⟩, 1, none, 0⟩ w2 (HG.out w2 B2.out).1 (HBD.out w2 B2.out) bd_small (F bdR) (HF.out _))
  rw [bd_no (HF.out _)] at HC2
  have hv2 : bdR.val ⟨some ⟨w.heap.size + 1 + 1 + 1 + 1 + 1 + 1, 0, none⟩, 1, none, 0⟩ = .agg #[.string ⟨#[112]⟩, .slice (some ⟨w.heap.size + 1 + 1 + 1 + 1 + 1 + 1, 0, none⟩) 1 1, .slice none 0 0] := rfl
  rw [hv2] at HC2
  have y0 := RL.at (RL.below HR7.out B2.out) (j := 0) rfl
  have y1 := RL.at (RL.below HR7.out B2.out) (j := 1) rfl
  have y2 := RL.at (RL.below HR7.out B2.out) (j := 2) rfl
  clear b2 HC1 hv2
  go_wp2_with fail
  clear y0 y1 y2
  refine HC2.out.mono ?_
  rintro e w3 ⟨rfl, b3⟩
  have B3 : Hid (Below A8.heap.size A8 w3) := B2.out.trans (b3.mono B2.out.size)
  have s0 := HCE.out w3 (B12.out.trans (b3.mono B12.out.size))
  have y0 := RL.at (RL.below HR5.out B3.out) (j := 0) rfl
  have y1 := RL.at (RL.below HR5.out B3.out) (j := 1) rfl
  have y2 := RL.at (RL.below HR5.out B3.out) (j := 2) rfl
  have v0 := RL.at (RL.below HR7.out B3.out) (j := 0) rfl
  have v1 := RL.at (RL.below HR7.out B3.out) (j := 1) rfl
  have v2 := RL.at (RL.below HR7.out B3.out) (j := 2) rfl
  have bA := belowA (w := w3) (.cells #[.string ⟨#[112]⟩, .slice (some ⟨w.heap.size + 1 + 1 + 1, 0, none⟩) 1 1, .slice (some ⟨w.heap.size + 1 + 1 + 1 + 1, 0, none⟩) 1 1, .string ⟨#[112]⟩, .slice (some ⟨w.heap.size + 1 + 1 + 1 + 1 + 1 + 1, 0, none⟩) 1 1, .slice none 0 0] 72)
  have rA := rl_new w3 #[.string ⟨#[112]⟩, .slice (some ⟨w.heap.size + 1 + 1 + 1, 0, none⟩) 1 1, .slice (some ⟨w.heap.size + 1 + 1 + 1 + 1, 0, none⟩) 1 1, .string ⟨#[112]⟩, .slice (some ⟨w.heap.size + 1 + 1 + 1 + 1 + 1 + 1, 0, none⟩) 1 1, .slice none 0 0] 72
  have BA : Hid (Below A8.heap.size A8 (w3.alloc (.cells #[.string ⟨#[112]⟩, .slice (some ⟨w.heap.size + 1 + 1 + 1, 0, none⟩) 1 1, .slice (some ⟨w.heap.size + 1 + 1 + 1 + 1, 0, none⟩) 1 1, .string ⟨#[112]⟩, .slice (some ⟨w.heap.size + 1 + 1 + 1 + 1 + 1 + 1, 0, none⟩) 1 1, .slice none 0 0] 72))) := B3.out.trans (bA.mono B3.out.size)
  have HJ : Hid (Calls Tryz.prog 7 #[.slice (some ⟨w3.heap.size, 0, none⟩) 2 2, .slice none 0 0] (w3.alloc (.cells #[.string ⟨#[112]⟩, .slice (some ⟨w.heap.size + 1 + 1 + 1, 0, none⟩) 1 1, .slice (some ⟨w.heap.size + 1 + 1 + 1 + 1, 0, none⟩) 1 1, .string ⟨#[112]⟩, .slice (some ⟨w.heap.size + 1 + 1 + 1 + 1 + 1 + 1, 0, none⟩) 1 1, .slice none 0 0] 72)) fun e w' => e = .returned (.int .i64 73) ∧ Below (w3.alloc (.cells #[.string ⟨#[112]⟩, .slice (some ⟨w.heap.size + 1 + 1 + 1, 0, none⟩) 1 1, .slice (some ⟨w.heap.size + 1 + 1 + 1 + 1, 0, none⟩) 1 1, .string ⟨#[112]⟩, .slice (some ⟨w.heap.size + 1 + 1 + 1 + 1 + 1 + 1, 0, none⟩) 1 1, .slice none 0 0] 72)).heap.size (w3.alloc (.cells #[.string ⟨#[112]⟩, .slice (some ⟨w.heap.size + 1 + 1 + 1, 0, none⟩) 1 1, .slice (some ⟨w.heap.size + 1 + 1 + 1 + 1, 0, none⟩) 1 1, .string ⟨#[112]⟩, .slice (some ⟨w.heap.size + 1 + 1 + 1 + 1 + 1 + 1, 0, none⟩) 1 1, .slice none 0 0] 72)) w') := by
    have hLr : Lr (w3.alloc (.cells #[.string ⟨#[112]⟩, .slice (some ⟨w.heap.size + 1 + 1 + 1, 0, none⟩) 1 1, .slice (some ⟨w.heap.size + 1 + 1 + 1 + 1, 0, none⟩) 1 1, .string ⟨#[112]⟩, .slice (some ⟨w.heap.size + 1 + 1 + 1 + 1 + 1 + 1, 0, none⟩) 1 1, .slice none 0 0] 72)) (.slice (some ⟨w3.heap.size, 0, none⟩) 2 2) 1 [⟨gdR (w.heap.size + 1), ⟨some ⟨w.heap.size + 1 + 1 + 1, 0, none⟩, 1, some ⟨w.heap.size + 1 + 1 + 1 + 1, 0, none⟩, 1⟩⟩, ⟨bdR, ⟨some ⟨w.heap.size + 1 + 1 + 1 + 1 + 1 + 1, 0, none⟩, 1, none, 0⟩⟩] := by
      refine ⟨ls_of_range (f := XR.cells) (k := 3) (by omega) (fun _ => rfl) XR0 (Nat.le_refl _) (by show 2 ≤ maxLen; decide) (World.rowIs.lt rA) (fun i hi => ?_), fun i hi => ?_⟩
      · match i, hi with
        | 0, _ =>
          intro j v hj
          match j, hj with
          | 0, hj => cases hj; exact rA.at (j := 0) rfl
          | 1, hj => cases hj; exact rA.at (j := 1) rfl
          | 2, hj => cases hj; exact rA.at (j := 2) rfl
        | 1, _ =>
          intro j v hj
          match j, hj with
          | 0, hj => cases hj; exact rA.at (j := 3) rfl
          | 1, hj => cases hj; exact rA.at (j := 4) rfl
          | 2, hj => cases hj; exact rA.at (j := 5) rfl
      · match i, hi with
        | 0, _ => exact HGD.out _ BA.out
        | 1, _ => exact HBD.out _ BA.out
    have hj := ckJob_any 0 F HF.out [⟨gdR (w.heap.size + 1), ⟨some ⟨w.heap.size + 1 + 1 + 1, 0, none⟩, 1, some ⟨w.heap.size + 1 + 1 + 1 + 1, 0, none⟩, 1⟩⟩, ⟨bdR, ⟨some ⟨w.heap.size + 1 + 1 + 1 + 1 + 1 + 1, 0, none⟩, 1, none, 0⟩⟩] [] (some ⟨w3.heap.size, 0, none⟩) 2 (.slice none 0 0) _ (HG.out _ BA.out) hLr (nil_lf _) (fun i hi => by
      match i, hi with
      | 0, _ => exact gd_small _
      | 1, _ => exact bd_small) (by show 3 ≤ _; decide)
    have e : jobE 1 F [⟨gdR (w.heap.size + 1), ⟨some ⟨w.heap.size + 1 + 1 + 1, 0, none⟩, 1, some ⟨w.heap.size + 1 + 1 + 1 + 1, 0, none⟩, 1⟩⟩, ⟨bdR, ⟨some ⟨w.heap.size + 1 + 1 + 1 + 1 + 1 + 1, 0, none⟩, 1, none, 0⟩⟩] [] = 73 := by
      unfold jobE jrE jrE
      simp only [gd_ok (HF.out _), bd_no (HF.out _)]
      simp
    rw [e] at hj
    exact hj
  clear b3 HC2 bA rA HCE
  go_wp2_with fail
  clear y0 y1 y2 v0 v1 v2 s0
  refine HJ.out.mono ?_
  rintro e w4 ⟨rfl, b4⟩
  have B4 : Hid (Below w.heap.size w w4) := HB0.out.trans ((BA.out.trans (b4.mono BA.out.size)).mono HB0.out.size)
  clear b4 HJ BA
  go_wp2
  go_ret
  exact ⟨by first | rfl | simp, B4.out⟩
end Go.Proofs.YtejfcdhdbpijjaaGreatDoor
end
section
namespace Go.Proofs.YtejfcdhdbpijjaaGreatDoor
open Go.RowKit Go.Maps
set_option linter.unusedVariables false
set_option linter.unusedSimpArgs false
attribute [local go_sem ↓] Go.wp_at_zero Go.wp_at_succ
attribute [-go_sem] loadVar storeVar Builtin.append_

theorem load_factsV {u : World} {a : Addr} {b : Option Addr} {n c : Nat} (h : u.cell? a = some (.slice b n c)) : (loadVar 23 a).run Tryz.prog u = .ok (.slice b n c) u := by rw [loadVar.eq_1]; go_simp
theorem load_intV {u : World} {a : Addr} {k : Int} (h : u.cell? a = some (.int .i64 k)) : (loadVar 3 a).run Tryz.prog u = .ok (.int .i64 k) u := by rw [loadVar.eq_1]; go_simp
theorem store_atD (u : World) (pr : ByteArray) (a : Option Addr) (n c : Nat) : (storeVar 26 ⟨u.heap.size, 0, none⟩ (.agg #[.string pr, .slice a n c])).run Tryz.prog (u.alloc (.cells #[.string ⟨#[]⟩, .slice none 0 0] 26)).drew = .ok () (u.alloc (.cells #[.string pr, .slice a n c] 26)).drew :=
  run_storeVar_new u.drew 26 #[.string ⟨#[]⟩, .slice none 0 0] #[.string pr, .slice a n c] (by kernel_rfl) rfl (by simp [Value.oneCell'])
theorem in_first (d : Nat) (F : R3 → List ByteArray) (rs : List XR) (fs : List XF) (pr : ByteArray) (ts : List T) : inR d F rs fs pr ts = (0, 0, 0) ∨ ¬ (inR d F rs fs pr ts).1 = 0 := by
  unfold inR
  split
  · split
    · split
      · exact .inl rfl
      · exact .inr (by dsimp only; decide)
    · exact .inr (by dsimp only; decide)
  · exact .inr (by dsimp only; decide)
set_option maxHeartbeats 6400000 in
set_option maxRecDepth 100000 in
theorem checkLess_walk (d : Nat) (l : List XR) (a : Option Addr) (c : Nat) (m : List XF) (a2 : Option Addr) (c2 : Nat) (pr : ByteArray) (ts : List T) (qa : Option Addr) (qc : Nat) (k : Int) (w : World) (hG : PWt w ∧ KT w ∧ LX.Gl w) (hl : l.length ≤ 281474976710656) (hL : Lr w (.slice a l.length c) (d + 1) l) (hm : m.length ≤ 281474976710656) (hM : Lf w (.slice a2 m.length c2) m) (hpr : pr.size ≤ maxLen) (hlen : ts.length ≤ 4398046511104) (hT : Lt w (.slice qa ts.length qc) ts) :
    Calls Tryz.prog 3 #[.agg #[.slice a l.length c, .slice a2 m.length c2, .string pr, .slice qa ts.length qc, .int .i64 k]] w fun r w' => r = .returned (.bool true) ∧ Below w.heap.size w w' := by
  obtain ⟨A0, hA0⟩ : ∃ A0, A0 = w.alloc (.cells #[.slice a l.length c, .slice a2 m.length c2, .string pr, .slice qa ts.length qc, .int .i64 k] 28) := ⟨_, rfl⟩
  have z0 : A0.heap.size = w.heap.size + 1 := by rw [hA0]; simp
  have b0 : Below w.heap.size w A0 := by rw [hA0]; exact belowA _
  have r0 : RL A0 w.heap.size 28 [.slice a l.length c, .slice a2 m.length c2, .string pr, .slice qa ts.length qc, .int .i64 k] := by
    have := rl_new w #[.slice a l.length c, .slice a2 m.length c2, .string pr, .slice qa ts.length qc, .int .i64 k] 28
    rw [← hA0] at this
    exact this
  have go1 : ∀ u, Below A0.heap.size A0 u → (loadVar 22 ⟨w.heap.size, 0, none⟩).run Tryz.prog u = .ok (.slice a l.length c) u := fun u hu => load_rules ((RL.below r0 hu).at (j := 0) rfl)
  have go2 : ∀ u, Below A0.heap.size A0 u → (loadVar 23 ⟨w.heap.size, 1, none⟩).run Tryz.prog u = .ok (.slice a2 m.length c2) u := fun u hu => load_factsV ((RL.below r0 hu).at (j := 1) rfl)
  have go3 : ∀ u, Below A0.heap.size A0 u → (loadVar 26 ⟨w.heap.size, 2, none⟩).run Tryz.prog u = .ok (.agg #[.string pr, .slice qa ts.length qc]) u := fun u hu => run_loadVar_mid _ _ 2 26 [.string pr, .slice qa ts.length qc] _ (by
      have := RL.below r0 hu
      exact fun j v hj => (by
        match j, hj with
        | 0, hj => exact this.at (j := 2) (by simpa using hj)
        | 1, hj => exact this.at (j := 3) (by simpa using hj))) Tryz.underlying26 rfl (by kernel_rfl)
  have go4 : ∀ u, Below A0.heap.size A0 u → (loadVar 3 ⟨w.heap.size, 4, none⟩).run Tryz.prog u = .ok (.int .i64 k) u := fun u hu => load_intV ((RL.below r0 hu).at (j := 4) rfl)
  have y1 : Below A0.heap.size A0 A0.drew := (Below.refl _ _).drew
  have y2 : Below A0.heap.size A0 (A0.alloc (.cells #[.string ⟨#[]⟩, .slice none 0 0] 26)).drew := (belowA _).drew
  have y3 : Below A0.heap.size A0 (A0.alloc (.cells #[.string pr, .slice qa ts.length qc] 26)).drew := (belowA _).drew
  have l11 := go1 _ y1
  have l12 := go1 _ y2
  have l13 := go1 _ y3
  have l21 := go2 _ y1
  have l22 := go2 _ y2
  have l23 := go2 _ y3
  have l31 := go3 _ y1
  have l32 := go3 _ y2
  have l33 := go3 _ y3
  have l41 := go4 _ y1
  have l42 := go4 _ y2
  have l43 := go4 _ y3
  have hst := store_atD A0 pr qa ts.length qc
  rw [z0] at hst
  have Y3 := Lib.hid y3
  have B0 := Lib.hid b0
  have HRA : Hid (RL (A0.alloc (.cells #[.string pr, .slice qa ts.length qc] 26)).drew (w.heap.size + 1) 26 [.string pr, .slice qa ts.length qc]) := by
    have := rl_new A0 #[.string pr, .slice qa ts.length qc] 26
    rw [z0] at this
    exact RL.below this (Below.refl _ _).drew
  have HLL := Lib.hid hL
  have HMM := Lib.hid hM
  have HTT := Lib.hid hT
  have HGG := Lib.hid hG
  obtain ⟨F, hF⟩ : ∃ F : R3 → List ByteArray, ∀ r, Lim (eqL (d + 1) r.bd) (atN r.bd) (F r) := Classical.axiomOfChoice (fun (r : R3) => lim_ex (eqL (d + 1) r.bd) (atN r.bd) (eqL_ok _ _))
  have HF := Lib.hid hF
  clear go1 go2 go3 go4 y1 y2 y3 b0 r0 hL hM hT hG hF
  go_enter Tryz.func3, Tryz.ntmps3
  go_upto_region 1 with fail
  rw [← hA0]
  clear hA0
  go_region
  clear l11 l12 l13 l21 l22 l23 l31 l32 l33 l41 l42 l43 hst z0
  generalize (A0.alloc (.cells #[.string pr, .slice qa ts.length qc] 26)).drew = W0 at Y3 HRA ⊢
  have HK : Hid (Below w.heap.size w W0) := B0.out.trans (Y3.out.mono B0.out.size)
  have HL : Hid (Lr W0 (.slice a l.length c) (d + 1) l) := HLL.out.below HK.out
  have HM : Hid (Lf W0 (.slice a2 m.length c2) m) := HMM.out.below HK.out
  have HT : Hid (Lt W0 (.slice qa ts.length qc) ts) := HTT.out.below HK.out
  have HG : Hid (KT W0 ∧ LX.Gl W0) := ⟨HGG.out.2.1.below HK.out, HGG.out.2.2.below HK.out⟩
  have HLA : Hid (∀ u, Below W0.heap.size W0 u → (loadVar 26 ⟨w.heap.size + 1, 0, none⟩).run Tryz.prog u = .ok (.agg #[.string pr, .slice qa ts.length qc]) u) := fun u hu => load_atomV (RL.below HRA.out hu)
  have HB := Lib.hid (beyondJob_any (d + 1) _ _ l m W0 hl hm HL.out HM.out)
  clear B0 Y3 HRA HLL HMM HTT HGG A0
  go_wp2_with fail
  refine HB.out.mono ?_
  rintro e w1 ⟨b, rfl, b1, hs⟩
  have HS := Lib.hid hs
  have B1 := Lib.hid b1
  clear hs HB b1
  cases b
  · obtain ⟨hsS, hsF⟩ := HS.out (by first | rfl | trivial)
    have HSS := Lib.hid hsS
    have HSF := Lib.hid hsF
    have HLV := Lib.hid (lives_any w1 ⟨HG.out.1.below B1.out, HG.out.2.below B1.out⟩)
    clear HS hsS hsF
    go_wp2_with fail
    refine HLV.out.mono ?_
    rintro e w2 ⟨rfl, b2⟩
    have B2 : Hid (Below W0.heap.size W0 w2) := B1.out.trans (b2.mono B1.out.size)
    have HJ := Lib.hid (jobT HF.out (Sb.own HSS.out HSF.out) HL.out HM.out HSS.out HG.out B2.out (HL.out.lies.below B2.out) (HM.out.lies.below B2.out))
    clear HLV b2 B1
    have hll := HSS.out.len
    have hml := HSF.out.len
    by_cases hj : jobE (d + 1) F l m = 0
    · have HJJ := Lib.hid hj
      rw [hj] at HJ
      clear hj
      go_wp2_with fail
      refine HJ.out.mono ?_
      rintro e w3 ⟨rfl, b3⟩
      have B3 : Hid (Below W0.heap.size W0 w3) := B2.out.trans (b3.mono B2.out.size)
      have HW : Hid (∀ u, Below w3.heap.size w3 u → Below W0.heap.size W0 u) := fun u hu => B3.out.trans (hu.mono B3.out.size)
      have HFE := Lib.hid (fewer_any l m 0 a c a2 c2 w3 (HL.out.lies.below B3.out) (HM.out.lies.below B3.out) hll hml)
      clear HJ b3 B2
      go_wp2_with fail
      refine HFE.out.mono ?_
      rintro e w4 ⟨t, b, x1, y1, x2, y2, ht, hb, rfl, o1, o2, ne, b4⟩
      have HT1 : Hid (t = fwL XR0 l 0 l.length) := ht
      have HT2 : Hid (b = fwL XF0 m 0 m.length) := hb
      have HN1 : Hid (∀ g, (Value.slice x1 t.length y1).ownBlock = some g → g < w4.heap.size) := fun g h => (o1.lt g h).2
      have HN2 : Hid (∀ g, (Value.slice x2 b.length y2).ownBlock = some g → g < w4.heap.size) := fun g h => (o2.lt g h).2
      have HAB : Hid (Ab w3 w3.heap.size w4 t b (.slice x1 t.length y1) (.slice x2 b.length y2)) := ⟨b4, o1, o2, ne⟩
      have HFE2 := Lib.hid (fewer_any l m k a c a2 c2 w4 (HL.out.lies.below (HW.out w4 b4)) (HM.out.lies.below (HW.out w4 b4)) hll hml)
      clear HFE ht hb o1 o2 ne b4
      go_wp2_with fail
      refine HFE2.out.mono ?_
      rintro e w5 ⟨t', b', x3, y3, x4, y4, ht, hb, rfl, o1, o2, ne, b5⟩
      have HT3 : Hid (t' = fwL XR0 l k l.length) := ht
      have HT4 : Hid (b' = fwL XF0 m k m.length) := hb
      have HA5 := Lib.hid (HAB.out.more b5)
      have HC5 : Hid (Ab w3 w4.heap.size w5 t' b' (.slice x3 t'.length y3) (.slice x4 b'.length y4)) := ⟨HA5.out.below, o1, o2, ne⟩
      have HS1 : Hid (Sb d l t m b) := by show Sb d l t m b; rw [HT1.out, HT2.out]; exact Sb.fw HSS.out HSF.out 0
      have HS2 : Hid (Sb d l t' m b') := by show Sb d l t' m b'; rw [HT3.out, HT4.out]; exact Sb.fw HSS.out HSF.out k
      have HALL : Hid ((∀ y ∈ l, y ∈ t) ∧ (∀ y ∈ m, y ∈ b)) := by
        refine ⟨?_, ?_⟩
        · rw [HT1.out]; exact fwL_all XR0 l (Int.le_refl 0)
        · rw [HT2.out]; exact fwL_all XF0 m (Int.le_refl 0)
      have HLT : Hid (t.length ≤ l.length ∧ b.length ≤ m.length ∧ t'.length ≤ l.length ∧ b'.length ≤ m.length) := by
        refine ⟨?_, ?_, ?_, ?_⟩
        · rw [HT1.out]; exact fwL_len _ _ _ _
        · rw [HT2.out]; exact fwL_len _ _ _ _
        · rw [HT3.out]; exact fwL_len _ _ _ _
        · rw [HT4.out]; exact fwL_len _ _ _ _
      have HSB : Hid (Sb d l (t ++ l) m (b ++ m)) := by show Sb d l (t ++ l) m (b ++ m); rw [HT1.out, HT2.out]; exact Sb.both HSS.out HSF.out 0
      clear HFE2 HAB ht hb o1 o2 ne b5 HT1 HT2 HT3 HT4
      have HJ1 := Lib.hid (jobT HF.out HS1.out HL.out HM.out HSS.out HG.out (HW.out w5 HA5.out.below) (ls_own HA5.out.o1) (ls_own HA5.out.o2))
      rw [job_sub HS1.out.r HS1.out.f HJJ.out] at HJ1
      go_wp2_with fail
      refine HJ1.out.mono ?_
      rintro e w6 ⟨rfl, b6⟩
      have HA6 := Lib.hid (HA5.out.more b6)
      have HC6 := Lib.hid (HC5.out.more b6)
      clear HJ1 b6 HA5 HC5
      obtain ⟨x5, y5, u1, x6, y6, u2, hr1, hr2, L1, L2, ha2, hc2⟩ := app_both (l := l) (m := m) HA6.out HC6.out HN1.out HN2.out (HL.out.lies.below B3.out) (HM.out.lies.below B3.out) (by have := HLT.out.1; omega) (by have := HLT.out.2.1; omega) hll hml
      have HA7 := Lib.hid ha2
      have HC7 := Lib.hid hc2
      have HJ2 := Lib.hid (jobT HF.out HSB.out HL.out HM.out HSS.out HG.out (HW.out u2 ha2.below) L1 L2)
      rw [job_sub HSB.out.r HSB.out.f HJJ.out] at HJ2
      generalize (t ++ l).length = N1 at hr1 HJ2
      generalize (b ++ m).length = N2 at hr2 HJ2
      clear L1 L2 ha2 hc2 HA6 HC6 HN1 HN2
      go_wp2_with fail
      clear hr1 hr2
      refine HJ2.out.mono ?_
      rintro e w7 ⟨rfl, b7⟩
      have HA8 := Lib.hid (HA7.out.more b7)
      have HC8 := Lib.hid (HC7.out.more b7)
      clear HJ2 b7 HA7 HC7 HSB
      have HJ3 := Lib.hid (jobT HF.out HS2.out HL.out HM.out HSS.out HG.out (HW.out w7 HC8.out.below) (ls_own HC8.out.o1) (ls_own HC8.out.o2))
      rw [job_sub HS2.out.r HS2.out.f HJJ.out] at HJ3
      go_wp2_with fail
      refine HJ3.out.mono ?_
      rintro e w8 ⟨rfl, b8⟩
      have HA9 := Lib.hid (HA8.out.more b8)
      have HC9 := Lib.hid (HC8.out.more b8)
      clear HJ3 b8 HA8 HC8
      have B8 := Lib.hid (HW.out w8 HA9.out.below)
      have hl8 := HLA.out w8 B8.out
      have HI := Lib.hid (inputT HF.out (Sb.own HSS.out HSF.out) HL.out HM.out HSS.out HG.out B8.out (HL.out.lies.below B8.out) (HM.out.lies.below B8.out) hpr hlen HT.out)
      unfold refV at HI
      rcases in_first (d + 1) F l m pr ts with hi | hi
      · have HOK := Lib.hid ((in_zero (d + 1) F l m pr ts).1 hi)
        rw [hi] at HI
        dsimp only at HI
        clear hi
        go_wp2_with fail
        clear hl8
        refine HI.out.mono ?_
        rintro e w9 ⟨rfl, b9⟩
        have HA10 := Lib.hid (HA9.out.more b9)
        have HC10 := Lib.hid (HC9.out.more b9)
        clear HI b9 HA9 HC9 B8
        have B9 := Lib.hid (HW.out w9 HA10.out.below)
        have hl9 := HLA.out w9 B9.out
        have HI2 := Lib.hid (inputT HF.out HS2.out HL.out HM.out HSS.out HG.out B9.out (ls_own HC10.out.o1) (ls_own HC10.out.o2) hpr hlen HT.out)
        rw [(in_zero (d + 1) F t' b' pr ts).2 (HOK.out.sub HS2.out.r HS2.out.f HLT.out.2.2.1 HLT.out.2.2.2)] at HI2
        unfold refV at HI2
        dsimp only at HI2
        go_wp2_with fail
        clear hl9
        refine HI2.out.mono ?_
        rintro e w10 ⟨rfl, b10⟩
        have HA11 := Lib.hid (HA10.out.more b10)
        clear HI2 b10 HA10 HC10 B9
        have B10 := Lib.hid (HW.out w10 HA11.out.below)
        have hl10 := HLA.out w10 B10.out
        have HI3 := Lib.hid (inputT HF.out HS1.out HL.out HM.out HSS.out HG.out B10.out (ls_own HA11.out.o1) (ls_own HA11.out.o2) hpr hlen HT.out)
        rw [(in_zero (d + 1) F t b pr ts).2 (HOK.out.sub HS1.out.r HS1.out.f HLT.out.1 HLT.out.2.1)] at HI3
        unfold refV at HI3
        dsimp only at HI3
        go_wp2_with fail
        clear hl10
        refine HI3.out.mono ?_
        rintro e w11 ⟨rfl, b11⟩
        have B11 : Hid (Below W0.heap.size W0 w11) := B10.out.trans (b11.mono B10.out.size)
        have hl11 := HLA.out w11 B11.out
        have HCA := Lib.hid (checkAtom_any pr _ ts w11 hpr (HT.out.below B11.out))
        rw [HOK.out.at_] at HCA
        clear HI3 b11 HA11 B10
        go_wp2_with fail
        clear hl11
        refine HCA.out.mono ?_
        rintro e w12 ⟨rfl, b12⟩
        have BE : Hid (Below w.heap.size w w12) := HK.out.trans ((B11.out.trans (b12.mono B11.out.size)).mono HK.out.size)
        clear HCA b12 B11
        go_wp2
        go_ret
        exact ⟨by first | rfl | simp, BE.out⟩
      · obtain ⟨⟨p1, p2, p3⟩, hin⟩ : ∃ x, inR (d + 1) F l m pr ts = x := ⟨_, rfl⟩
        rw [hin] at HI hi
        dsimp only at HI hi
        clear hin
        go_wp2_with fail
        clear hl8
        refine HI.out.mono ?_
        rintro e w9 ⟨rfl, b9⟩
        have BE : Hid (Below w.heap.size w w9) := HK.out.trans ((B8.out.trans (b9.mono B8.out.size)).mono HK.out.size)
        clear HI b9 HA9 HC9 B8
        go_wp2
        go_ret
        exact ⟨by first | rfl | simp, BE.out⟩
    · have HJJ := Lib.hid hj
      obtain ⟨j0, hj0⟩ : ∃ j0, jobE (d + 1) F l m = j0 := ⟨_, rfl⟩
      rw [hj0] at HJ hj
      have hjb : (j0 == 0) = false := by simpa using hj
      clear hj0 hj
      go_wp2_with fail
      refine HJ.out.mono ?_
      rintro e w3 ⟨rfl, b3⟩
      have B3 : Hid (Below W0.heap.size W0 w3) := B2.out.trans (b3.mono B2.out.size)
      have HW : Hid (∀ u, Below w3.heap.size w3 u → Below W0.heap.size W0 u) := fun u hu => B3.out.trans (hu.mono B3.out.size)
      have HFE := Lib.hid (fewer_any l m 0 a c a2 c2 w3 (HL.out.lies.below B3.out) (HM.out.lies.below B3.out) hll hml)
      clear HJ b3 B2
      go_wp2_with fail
      refine HFE.out.mono ?_
      rintro e w4 ⟨t, b, x1, y1, x2, y2, ht, hb, rfl, o1, o2, ne, b4⟩
      have HT1 : Hid (t = fwL XR0 l 0 l.length) := ht
      have HT2 : Hid (b = fwL XF0 m 0 m.length) := hb
      have HN1 : Hid (∀ g, (Value.slice x1 t.length y1).ownBlock = some g → g < w4.heap.size) := fun g h => (o1.lt g h).2
      have HN2 : Hid (∀ g, (Value.slice x2 b.length y2).ownBlock = some g → g < w4.heap.size) := fun g h => (o2.lt g h).2
      have HAB : Hid (Ab w3 w3.heap.size w4 t b (.slice x1 t.length y1) (.slice x2 b.length y2)) := ⟨b4, o1, o2, ne⟩
      have HFE2 := Lib.hid (fewer_any l m k a c a2 c2 w4 (HL.out.lies.below (HW.out w4 b4)) (HM.out.lies.below (HW.out w4 b4)) hll hml)
      clear HFE ht hb o1 o2 ne b4
      go_wp2_with fail
      refine HFE2.out.mono ?_
      rintro e w5 ⟨t', b', x3, y3, x4, y4, ht, hb, rfl, o1, o2, ne, b5⟩
      have HT3 : Hid (t' = fwL XR0 l k l.length) := ht
      have HT4 : Hid (b' = fwL XF0 m k m.length) := hb
      have HA5 := Lib.hid (HAB.out.more b5)
      have HC5 : Hid (Ab w3 w4.heap.size w5 t' b' (.slice x3 t'.length y3) (.slice x4 b'.length y4)) := ⟨HA5.out.below, o1, o2, ne⟩
      have HS1 : Hid (Sb d l t m b) := by show Sb d l t m b; rw [HT1.out, HT2.out]; exact Sb.fw HSS.out HSF.out 0
      have HS2 : Hid (Sb d l t' m b') := by show Sb d l t' m b'; rw [HT3.out, HT4.out]; exact Sb.fw HSS.out HSF.out k
      have HALL : Hid ((∀ y ∈ l, y ∈ t) ∧ (∀ y ∈ m, y ∈ b)) := by
        refine ⟨?_, ?_⟩
        · rw [HT1.out]; exact fwL_all XR0 l (Int.le_refl 0)
        · rw [HT2.out]; exact fwL_all XF0 m (Int.le_refl 0)
      have HLT : Hid (t.length ≤ l.length ∧ b.length ≤ m.length ∧ t'.length ≤ l.length ∧ b'.length ≤ m.length) := by
        refine ⟨?_, ?_, ?_, ?_⟩
        · rw [HT1.out]; exact fwL_len _ _ _ _
        · rw [HT2.out]; exact fwL_len _ _ _ _
        · rw [HT3.out]; exact fwL_len _ _ _ _
        · rw [HT4.out]; exact fwL_len _ _ _ _
      have HSB : Hid (Sb d l (t ++ l) m (b ++ m)) := by show Sb d l (t ++ l) m (b ++ m); rw [HT1.out, HT2.out]; exact Sb.both HSS.out HSF.out 0
      clear HFE2 HAB ht hb o1 o2 ne b5 HT1 HT2 HT3 HT4
      have HJ1 := Lib.hid (jobT HF.out HS1.out HL.out HM.out HSS.out HG.out (HW.out w5 HA5.out.below) (ls_own HA5.out.o1) (ls_own HA5.out.o2))
      obtain ⟨j1, hj1⟩ : ∃ j1, jobE (d + 1) F t b = j1 := ⟨_, rfl⟩
      have hk1 : ¬ j1 = 0 := fun h => HJJ.out (job_sub HALL.out.1 HALL.out.2 (hj1.trans h))
      rw [hj1] at HJ1
      have hkb : (j1 == 0) = false := by simpa using hk1
      clear hj1 hk1
      go_wp2_with fail
      refine HJ1.out.mono ?_
      rintro e w6 ⟨rfl, b6⟩
      have HA6 := Lib.hid (HA5.out.more b6)
      have HC6 := Lib.hid (HC5.out.more b6)
      clear HJ1 b6 HA5 HC5
      obtain ⟨x5, y5, u1, x6, y6, u2, hr1, hr2, L1, L2, ha2, hc2⟩ := app_both (l := l) (m := m) HA6.out HC6.out HN1.out HN2.out (HL.out.lies.below B3.out) (HM.out.lies.below B3.out) (by have := HLT.out.1; omega) (by have := HLT.out.2.1; omega) hll hml
      have HA7 := Lib.hid ha2
      have HC7 := Lib.hid hc2
      have HJ2 := Lib.hid (jobT HF.out HSB.out HL.out HM.out HSS.out HG.out (HW.out u2 ha2.below) L1 L2)
      obtain ⟨j2, hj2⟩ : ∃ j2, jobE (d + 1) F (t ++ l) (b ++ m) = j2 := ⟨_, rfl⟩
      have hk2 : ¬ j2 = 0 := fun h => HJJ.out (job_sub (fun y hy => List.mem_append.2 (.inr hy)) (fun y hy => List.mem_append.2 (.inr hy)) (hj2.trans h))
      rw [hj2] at HJ2
      have hkc : (j2 == 0) = false := by simpa using hk2
      clear hj2 hk2
      generalize (t ++ l).length = N1 at hr1 HJ2
      generalize (b ++ m).length = N2 at hr2 HJ2
      clear L1 L2 ha2 hc2 HA6 HC6 HN1 HN2
      go_wp2_with fail
      clear hr1 hr2
      refine HJ2.out.mono ?_
      rintro e w7 ⟨rfl, b7⟩
      have HA8 := Lib.hid (HA7.out.more b7)
      have HC8 := Lib.hid (HC7.out.more b7)
      clear HJ2 b7 HA7 HC7 HSB
      obtain ⟨w8, rfl⟩ : ∃ w8, w8 = w7 := ⟨_, rfl⟩
      have HA9 := Lib.hid HA8.out
      have HC9 := Lib.hid HC8.out
      clear HA8 HC8
      have B8 := Lib.hid (HW.out w8 HA9.out.below)
      have hl8 := HLA.out w8 B8.out
      have HI := Lib.hid (inputT HF.out (Sb.own HSS.out HSF.out) HL.out HM.out HSS.out HG.out B8.out (HL.out.lies.below B8.out) (HM.out.lies.below B8.out) hpr hlen HT.out)
      unfold refV at HI
      rcases in_first (d + 1) F l m pr ts with hi | hi
      · exact absurd ((in_zero (d + 1) F l m pr ts).1 hi).job HJJ.out
      · obtain ⟨⟨p1, p2, p3⟩, hin⟩ : ∃ x, inR (d + 1) F l m pr ts = x := ⟨_, rfl⟩
        rw [hin] at HI hi
        dsimp only at HI hi
        clear hin
        go_wp2_with fail
        clear hl8
        refine HI.out.mono ?_
        rintro e w9 ⟨rfl, b9⟩
        have BE : Hid (Below w.heap.size w w9) := HK.out.trans ((B8.out.trans (b9.mono B8.out.size)).mono HK.out.size)
        clear HI b9 HA9 HC9 B8
        go_wp2
        go_ret
        exact ⟨by first | rfl | simp, BE.out⟩
  · clear HS
    go_wp2
    go_ret
    exact ⟨by first | rfl | simp, HK.out.trans (B1.out.mono HK.out.size)⟩
end Go.Proofs.YtejfcdhdbpijjaaGreatDoor
end
