import Derived.Test.YtjjjnpmppblchaaGreatDoorPrintTermsW
import Derived.Deep.RegionHeld3
import Derived.Deep.CutRange
import Derived.Deep.RegionWith
namespace Go.Proofs.YtjjjnpmppblchaaGreatDoor
open Go.RowKit Go.Maps
set_option linter.unusedVariables false
set_option linter.unusedSimpArgs false
attribute [local go_sem ↓] Go.wp_at_zero Go.wp_at_succ

set_option maxHeartbeats 1600000 in
theorem fast_any (p : Nat) (hp : p < 11) (t : T) (s : Value) (w : World) : Calls Tryz.prog 93 #[.agg #[.int .i8 (p : Int), .string t.v, .int .i8 t.a.k, .int .i64 t.a.n, .string t.a.s, s]] w fun r w' => r = .returned (.int .i64 (holdT p)) ∧ Below w.heap.size w w' := by
  rcases (by omega : p = 0 ∨ p = 1 ∨ p = 2 ∨ p = 3 ∨ p = 4 ∨ p = 5 ∨ p = 6 ∨ p = 7 ∨ p = 8 ∨ p = 9 ∨ p = 10) with rfl | rfl | rfl | rfl | rfl | rfl | rfl | rfl | rfl | rfl | rfl
  all_goals
    go_enter Tryz.func93, Tryz.ntmps93
    go_wp2
    go_ret
    exact ⟨rfl, (Below.refl _ _).alloc (Nat.le_refl _) _⟩
theorem sign6_any (p : Nat) (h2 : 2 ≤ p) (h7 : p ≤ 7) (w : World) : Calls Tryz.prog 94 #[.int .i8 (p : Int)] w fun r w' => r = .returned (.string (opS p)) ∧ w' = w := by
  rcases (by omega : p = 2 ∨ p = 3 ∨ p = 4 ∨ p = 5 ∨ p = 6 ∨ p = 7) with rfl | rfl | rfl | rfl | rfl | rfl
  all_goals
    go_enter Tryz.func94, Tryz.ntmps94
    go_wp2
    go_ret
    exact ⟨rfl, rfl⟩
theorem word6_any (p : Nat) (h2 : 8 ≤ p) (h7 : p ≤ 10) (w : World) : Calls Tryz.prog 91 #[.int .i8 (p : Int)] w fun r w' => r = .returned (.string (opS p)) ∧ w' = w := by
  rcases (by omega : p = 8 ∨ p = 9 ∨ p = 10) with rfl | rfl | rfl
  all_goals
    go_enter Tryz.func91, Tryz.ntmps91
    go_wp2
    go_ret
    exact ⟨rfl, rfl⟩
/-- a list of bytes as a text -/
def txt (l : List UInt8) : ByteArray := ⟨l.toArray⟩
theorem txt_app (a b : List UInt8) : txt a ++ txt b = txt (a ++ b) := by
  have e : (txt a ++ txt b).data = (a ++ b).toArray := by
    rw [ByteArray.data_append]
    simp [txt]
  cases h : txt a ++ txt b with
  | mk d => rw [h] at e; simp only at e; rw [e]; rfl
theorem txt_size (a : List UInt8) : (txt a).size = a.length := by
  show (txt a).data.size = _
  simp [txt]
theorem txt_one (c : UInt8) : (⟨#[c]⟩ : ByteArray) = txt [c] := rfl
theorem opS_txt (p : Nat) : opS p = txt (opT p) := rfl
set_option maxHeartbeats 800000 in
theorem within_any (e : E) (a : Option Addr) (c : Nat) (l : List UInt8) (brk : Bool) (w : World) (hl : l.length ≤ 1099511627776)
    (hx : ∀ u, Below w.heap.size w u → Calls Tryz.prog 58 #[e.val a c] u fun r w' => r = .returned (.string (txt l)) ∧ Below u.heap.size u w') :
    Calls Tryz.prog 92 #[e.val a c, .bool brk] w fun r w' => r = .returned (.string (txt (kidT brk l))) ∧ Below w.heap.size w w' := by
  have BA := (Below.refl w.heap.size w).alloc (Nat.le_refl _) (.cells #[.int .i8 e.op, .string e.t.v, .int .i8 e.t.a.k, .int .i64 e.t.a.n, .string e.t.a.s, .slice a e.kids.length c] 56)
  have HX : Hid _ := hx _ BA
  clear hx
  cases brk
  · have e1 : kidT false l = l := rfl
    rw [e1]
    unfold E.val at *
    go_enter Tryz.func92, Tryz.ntmps92
    go_wp2_with fail
    refine Calls.mono HX.out ?_
    rintro ee w1 ⟨rfl, b1⟩
    go_wp2
    go_ret
    exact ⟨rfl, BA.trans (b1.mono BA.size)⟩
  · have h1 : (⟨#[40]⟩ : ByteArray) ++ txt l = txt ([40] ++ l) := by rw [txt_one, txt_app]
    have h2 : txt ([40] ++ l) ++ (⟨#[41]⟩ : ByteArray) = txt (kidT true l) := by rw [txt_one, txt_app]; rfl
    have s1 : (txt l).size ≤ 1099511627776 := by rw [txt_size]; exact hl
    have s2 : (txt ([40] ++ l)).size ≤ 1099511627777 := by rw [txt_size, List.length_append]; simp only [List.length_cons, List.length_nil]; omega
    obtain ⟨S3, h3⟩ : ∃ S3, txt (kidT true l) = S3 := ⟨_, rfl⟩
    obtain ⟨S2, h4⟩ : ∃ S2, txt ([40] ++ l) = S2 := ⟨_, rfl⟩
    obtain ⟨S1, h5⟩ : ∃ S1, txt l = S1 := ⟨_, rfl⟩
    rw [h3]
    rw [h3, h4] at h2
    rw [h4, h5] at h1
    rw [h5] at s1 HX
    rw [h4] at s2
    clear h3 h4 h5 hl
    unfold E.val at *
    go_enter Tryz.func92, Tryz.ntmps92
    go_wp2_with fail
    refine Calls.mono HX.out ?_
    rintro ee w1 ⟨rfl, b1⟩
    go_wp2
    go_ret
    exact ⟨rfl, BA.trans (b1.mono BA.size)⟩
theorem below_next {wc u v : World} (h : Below wc.heap.size wc u) (h2 : Below u.heap.size u v) : Below wc.heap.size wc v := h.trans (h2.mono h.size)
theorem named_zero {t : T} (h : namedB t = true) (hv : t.v ≠ noS) : t.a = V0 := by
  unfold namedB at h
  rw [Bool.and_eq_true] at h
  have h2 := h.2
  unfold termB at h2
  rw [if_neg hv, Bool.and_eq_true] at h2
  exact of_decide_eq_true h2.1
set_option maxHeartbeats 6400000 in
theorem r6expr_any : ∀ (r d : Nat) (e : E) (a : Option Addr) (c : Nat) (w : World), EIs w d e a c → exprB r e = true → (textE r e).length ≤ 1000000000 →
    Calls Tryz.prog 58 #[e.val a c] w fun r' w' => r' = .returned (.string (txt (textE r e))) ∧ Below w.heap.size w w' := by
  intro r
  induction r with
  | zero => intro d e a c w hE he; cases he
  | succ r ih =>
    intro d e a c w hE he hl
    cases d with
    | zero => exact hE.elim
    | succ d =>
    obtain ⟨hop, htw, hc1, hc2, hk⟩ := hE
    obtain ⟨f1, f2, f3, f4, f5⟩ := exprB_form he
    obtain ⟨op, t, kids⟩ := e
    simp only [op_mk, t_mk, kids_mk] at *
    obtain ⟨p, rfl⟩ : ∃ p : Nat, op = p := ⟨op.toNat, by omega⟩
    have hp11 : p < 11 := by omega
    rw [Int.toNat_natCast] at f3
    have BA := (Below.refl w.heap.size w).alloc (Nat.le_refl _) (.cells #[.int .i8 (p : Int), .string t.v, .int .i8 t.a.k, .int .i64 t.a.n, .string t.a.s, .slice a kids.length c] 56)
    have HK : Hid _ := hk
    have IH : Hid (∀ i, i < kids.length → ¬ (p : Int) = 0 → (textE r (atE kids i)).length ≤ 1000000000 → ∀ (a' : Option Addr) (c' : Nat) (u : World), EIs u d (atE kids i) a' c' →
      Calls Tryz.prog 58 #[(atE kids i).val a' c'] u fun r' w' => r' = .returned (.string (txt (textE r (atE kids i)))) ∧ Below u.heap.size u w') := fun i hi h0 hl a' c' u h1 => ih d _ a' c' u h1 (f5 h0 i hi) hl
    have HOP : Hid (∀ i, i < kids.length → ¬ (p : Int) = 0 → ∃ q : Nat, (atE kids i).op = (q : Int) ∧ q < 11) := fun i hi h0 => exprB_op (f5 h0 i hi)
    have HT : Hid _ := textE_mk r p t kids
    have HL : Hid _ := hl
    have hlen := hop.2
    clear hk ih he hl hop hc2 hc1 f1 f2
    unfold E.val
    simp only [op_mk, t_mk, kids_mk]
    by_cases hp0 : p = 0
    · have hok : termB t = true := by
        have := f4 (by rw [hp0]; rfl)
        unfold namedB at this
        simp only [Bool.and_eq_true] at this
        exact this.2
      have hT : Hid (textE (r + 1) (.mk p t kids) = termT t) := by show _ = _; rw [HT.out, if_pos (by rw [hp0]; rfl)]
      have hTS : Hid (txt (termT t) = termS t) := termS_eq t
      have dp : ((p : Int) == 0) = true := by rw [hp0]; rfl
      rw [hT.out]
      clear HT hT IH HOP HK f3 f4 f5 hp0 hp11 HL
      go_enter Tryz.func58, Tryz.ntmps58
      go_wp2_with fail
      refine (r6term_any t _ htw hok).mono ?_
      rintro ee w2 ⟨rfl, b2⟩
      go_wp2
      go_ret
      exact ⟨by rw [hTS.out]; rfl, BA.trans (b2.mono BA.size)⟩
    · have hpz : ¬ (p : Int) = 0 := by omega
      have dp0 : ((p : Int) == 0) = false := by rw [beq_eq_false_iff_ne]; omega
      have hk0 : 0 < kids.length := by
        rw [f3]
        have : ∀ q : Fin 11, q.val ≠ 0 → 0 < kidsOf q.val := by decide
        exact this ⟨p, hp11⟩ hp0
      obtain ⟨g, off, rfl, hg, hKS⟩ := HK.out hk0
      obtain ⟨a0, c0, hx0, he0⟩ := hKS 0 hk0
      obtain ⟨q, hq, hq11⟩ := HOP.out 0 hk0 hpz
      have hk0' : (0 : Int) < (kids.length : Int) := by omega
      have HXB : Hid (XAt (w.alloc (.cells #[.int .i8 (p : Int), .string t.v, .int .i8 t.a.k, .int .i64 t.a.n, .string t.a.s, .slice (some ⟨g, off, none⟩) kids.length c] 56)) w.heap.size 0 p t (.slice (some ⟨g, off, none⟩) kids.length c)) := ⟨by go_simp, by go_simp, by go_simp, by go_simp, by go_simp, by go_simp⟩
      by_cases hp8 : 8 ≤ p
      · have hT : Hid (textE (r + 1) (.mk p t kids) = opT p ++ kidT true (textE r (atE kids 0))) := by
          show _ = _
          rw [HT.out, if_neg hpz, if_neg (by omega), if_pos (by omega)]
        rw [hT.out] at HL ⊢
        have F : ((p : Int) == 8) = true ∨ (((p : Int) == 8) = false ∧ ((p : Int) == 9) = true) ∨ (((p : Int) == 8) = false ∧ ((p : Int) == 9) = false ∧ ((p : Int) == 10) = true) := by
          rcases (by omega : p = 8 ∨ p = 9 ∨ p = 10) with rfl | rfl | rfl
          · exact .inl rfl
          · exact .inr (.inl ⟨rfl, rfl⟩)
          · exact .inr (.inr ⟨rfl, rfl, rfl⟩)
        have HWd : Hid (∀ u, Calls Tryz.prog 91 #[.int .i8 (p : Int)] u fun r w' => r = .returned (.string (opS p)) ∧ w' = u) := fun u => word6_any p hp8 (by omega) u
        have HLk : Hid ((textE r (atE kids 0)).length ≤ 1000000000) := by
          have h1 := HL.out
          have h2 := (kidT_len true (textE r (atE kids 0))).1
          rw [List.length_append] at h1
          show _ ≤ _
          omega
        have IH0 : Hid (∀ u, EIs u d (atE kids 0) a0 c0 → Calls Tryz.prog 58 #[(atE kids 0).val a0 c0] u fun r' w' => r' = .returned (.string (txt (textE r (atE kids 0)))) ∧ Below u.heap.size u w') := fun u hu => IH.out 0 hk0 hpz HLk.out a0 c0 u hu
        have HE0 : Hid (EIs w d (atE kids 0) a0 c0) := he0
        clear HT hT IH HOP HK f3 f4 f5 hp0 hKS he0 hp8 HL
        generalize atE kids 0 = x at hx0 IH0 hq HLk HE0 ⊢
        obtain ⟨xo, xt, xk⟩ := x
        simp only [op_mk, t_mk, kids_mk] at hx0 hq
        subst hq
        generalize textE r (.mk (q : Int) xt xk) = tx at IH0 HLk ⊢
        have e1 : opS p ++ (⟨#[40]⟩ : ByteArray) = txt (opT p ++ [40]) := by rw [opS_txt, txt_one, txt_app]
        have e2 : txt (opT p ++ [40]) ++ txt tx = txt (opT p ++ [40] ++ tx) := txt_app _ _
        have e3 : txt (opT p ++ [40] ++ tx) ++ (⟨#[41]⟩ : ByteArray) = txt (opT p ++ kidT true tx) := by rw [txt_one, txt_app]; simp [kidT]
        have s0 : (opS p).size ≤ 5 := by rw [opS_txt, txt_size]; exact opT_len p
        have s1 : (txt (opT p ++ [40])).size ≤ 6 := by rw [txt_size, List.length_append]; have := opT_len p; simp only [List.length_cons, List.length_nil]; omega
        have s2 : (txt tx).size ≤ 1000000000 := by rw [txt_size]; exact HLk.out
        have s3 : (txt (opT p ++ [40] ++ tx)).size ≤ 1000000006 := by rw [txt_size, List.length_append, List.length_append]; have := opT_len p; have := HLk.out; simp only [List.length_cons, List.length_nil]; omega
        obtain ⟨TX, hTX⟩ : ∃ TX, txt (opT p ++ kidT true tx) = TX := ⟨_, rfl⟩
        obtain ⟨A2, hA2⟩ : ∃ A2, txt (opT p ++ [40] ++ tx) = A2 := ⟨_, rfl⟩
        obtain ⟨A1, hA1⟩ : ∃ A1, txt (opT p ++ [40]) = A1 := ⟨_, rfl⟩
        obtain ⟨S, hS⟩ : ∃ S, txt tx = S := ⟨_, rfl⟩
        obtain ⟨O, hO⟩ : ∃ O, opS p = O := ⟨_, rfl⟩
        rw [hTX]
        rw [hTX, hA2] at e3
        rw [hA1, hA2, hS] at e2
        rw [hO, hA1] at e1
        rw [hO] at s0 HWd
        rw [hA1] at s1
        rw [hS] at s2 IH0
        rw [hA2] at s3
        have c1 : ¬ 9223372036854775807 < O.size + 1 := by omega
        have c2 : ¬ 9223372036854775807 < A1.size + S.size := by omega
        have c3 : ¬ 9223372036854775807 < A2.size + 1 := by omega
        clear hTX hA2 hA1 hS hO hpz s0 s1 s2 s3
        have HC : Hid (∀ u, Below (w.alloc (.cells #[.int .i8 (p : Int), .string t.v, .int .i8 t.a.k, .int .i64 t.a.n, .string t.a.s, .slice (some ⟨g, off, none⟩) kids.length c] 56)).heap.size (w.alloc (.cells #[.int .i8 (p : Int), .string t.v, .int .i8 t.a.k, .int .i64 t.a.n, .string t.a.s, .slice (some ⟨g, off, none⟩) kids.length c] 56)) u → Below w.heap.size w u ∧ u.cell? ⟨w.heap.size, 0, none⟩ = some (.int .i8 (p : Int)) ∧ u.cell? ⟨w.heap.size, 5, none⟩ = some (.slice (some ⟨g, off, none⟩) kids.length c) ∧ u.cell? ⟨g, off, none⟩ = some (.int .i8 (q : Int)) ∧ u.cell? ⟨g, off + 1, none⟩ = some (.string xt.v) ∧ u.cell? ⟨g, off + 2, none⟩ = some (.int .i8 xt.a.k) ∧ u.cell? ⟨g, off + 3, none⟩ = some (.int .i64 xt.a.n) ∧ u.cell? ⟨g, off + 4, none⟩ = some (.string xt.a.s) ∧ u.cell? ⟨g, off + 5, none⟩ = some (.slice a0 xk.length c0)) := fun u hu => by
          have hwu : Below w.heap.size w u := BA.trans (hu.mono BA.size)
          obtain ⟨z0, z1, z2, z3, z4, z5⟩ := HXB.out.below hu (by simp)
          obtain ⟨y0, y1, y2, y3, y4, y5⟩ := hx0.below hwu hg
          simp only [Nat.zero_mul, Nat.add_zero] at y0 y1 y2 y3 y4 y5
          exact ⟨hwu, z0, z5, y0, y1, y2, y3, y4, y5⟩
        clear hx0 HXB
        rcases F with d8 | ⟨d8, d9⟩ | ⟨d8, d9, d10⟩
        all_goals
          go_enter Tryz.func58, Tryz.ntmps58
          go_wp2_with fail
          generalize hWW : w.alloc (.cells #[.int .i8 (p : Int), .string t.v, .int .i8 t.a.k, .int .i64 t.a.n, .string t.a.s, .slice (some ⟨g, off, none⟩) kids.length c] 56) = W at HC ⊢
          clear hWW
          have hB0 : Below W.heap.size W W := Below.refl _ _
          have hS0 := HC.out _ hB0
          clear BA
          go_region_held3 (fun u => (Below W.heap.size W u) ∧ u.cell? ⟨w.heap.size, 0, none⟩ = some (.int .i8 (p : Int)) ∧ u.cell? ⟨w.heap.size, 5, none⟩ = some (.slice (some ⟨g, off, none⟩) kids.length c) ∧ u.cell? ⟨g, off, none⟩ = some (.int .i8 (q : Int)) ∧ u.cell? ⟨g, off + 1, none⟩ = some (.string xt.v) ∧ u.cell? ⟨g, off + 2, none⟩ = some (.int .i8 xt.a.k) ∧ u.cell? ⟨g, off + 3, none⟩ = some (.int .i64 xt.a.n) ∧ u.cell? ⟨g, off + 4, none⟩ = some (.string xt.a.s) ∧ u.cell? ⟨g, off + 5, none⟩ = some (.slice a0 xk.length c0))
            (first
              | assumption
              | exact ⟨hB0.drew, (HC.out _ hB0.drew).2⟩
              | exact ⟨(by assumption), (HC.out _ (by assumption)).2⟩)
            (first
              | (go_at_call 91; refine Calls.mono (HWd.out _) ?_; rintro ee w2 ⟨rfl, rfl⟩)
              | (go_at_call 58; refine Calls.mono (IH0.out _ (HE0.out.below (HC.out _ hB0.drew).1)) ?_; rintro ee w3 ⟨rfl, b3⟩; have b3' : Below W.heap.size W w3 := hB0.drew.trans b3)
              | fail)
          go_wp2
          go_ret
          exact ⟨rfl, (HC.out _ b3').1⟩
      · have d8 : ((p : Int) == 8) = false := by rw [beq_eq_false_iff_ne]; omega
        have d9 : ((p : Int) == 9) = false := by rw [beq_eq_false_iff_ne]; omega
        have d10 : ((p : Int) == 10) = false := by rw [beq_eq_false_iff_ne]; omega
        by_cases hp1 : p = 1
        · have dp1 : ((p : Int) == 1) = true := by rw [hp1]; rfl
          have hT : Hid (textE (r + 1) (.mk p t kids) = opT 1 ++ kidT (decide (holdT q < 3) || unsB (atE kids 0)) (textE r (atE kids 0))) := by
            show _ = _
            rw [HT.out, if_neg hpz, if_pos (by rw [hp1]; rfl), hq, Int.toNat_natCast]
            rfl
          rw [hT.out] at HL ⊢
          have hv2 : (holdT q = 1 ∨ holdT q = 2) ∨ (holdT q = 3 ∨ holdT q = 4) := (by decide : ∀ q : Fin 11, (holdT q.val = 1 ∨ holdT q.val = 2) ∨ (holdT q.val = 3 ∨ holdT q.val = 4)) ⟨q, hq11⟩
          have HLk : Hid ((textE r (atE kids 0)).length ≤ 1000000000) := by
            have h1 := HL.out
            have h2 := (kidT_len (decide (holdT q < 3) || unsB (atE kids 0)) (textE r (atE kids 0))).1
            rw [List.length_append] at h1
            show _ ≤ _
            omega
          have IH0 : Hid (∀ u, EIs u d (atE kids 0) a0 c0 → Calls Tryz.prog 58 #[(atE kids 0).val a0 c0] u fun r' w' => r' = .returned (.string (txt (textE r (atE kids 0)))) ∧ Below u.heap.size u w') := fun u hu => IH.out 0 hk0 hpz HLk.out a0 c0 u hu
          have HE0 : Hid (EIs w d (atE kids 0) a0 c0) := he0
          have HV0 : Hid (exprB r (atE kids 0) = true) := f5 hpz 0 hk0
          clear HT hT IH HOP HK f3 f4 f5 hp0 hKS he0 hp8 HL hp1
          generalize atE kids 0 = x at hx0 IH0 hq HLk HE0 HV0 ⊢
          obtain ⟨xo, xt, xk⟩ := x
          simp only [op_mk, t_mk, kids_mk] at hx0 hq
          subst hq
          generalize textE r (.mk (q : Int) xt xk) = tx at IH0 HLk ⊢
          have HWI : Hid (∀ b u, Below w.heap.size w u → Calls Tryz.prog 92 #[.agg #[.int .i8 (q : Int), .string xt.v, .int .i8 xt.a.k, .int .i64 xt.a.n, .string xt.a.s, .slice a0 xk.length c0], .bool b] u fun r' w' => r' = .returned (.string (txt (kidT b tx))) ∧ Below u.heap.size u w') := fun b u hu => within_any (.mk q xt xk) a0 c0 tx b u (by have := HLk.out; omega) (fun u2 hu2 => IH0.out u2 (HE0.out.below (hu.trans (hu2.mono hu.size))))
          have HFa : Hid (∀ u, Calls Tryz.prog 93 #[.agg #[.int .i8 (q : Int), .string xt.v, .int .i8 xt.a.k, .int .i64 xt.a.n, .string xt.a.s, .slice a0 xk.length c0]] u fun r' w' => r' = .returned (.int .i64 (holdT q)) ∧ Below u.heap.size u w') := fun u => fast_any q hq11 xt (.slice a0 xk.length c0) u
          have HC : Hid (∀ u, Below ((w.alloc (.cells #[.int .i8 (p : Int), .string t.v, .int .i8 t.a.k, .int .i64 t.a.n, .string t.a.s, .slice (some ⟨g, off, none⟩) kids.length c] 56)).alloc (.cells #[.int .i8 (q : Int), .string xt.v, .int .i8 xt.a.k, .int .i64 xt.a.n, .string xt.a.s, .slice a0 xk.length c0] 56)).heap.size ((w.alloc (.cells #[.int .i8 (p : Int), .string t.v, .int .i8 t.a.k, .int .i64 t.a.n, .string t.a.s, .slice (some ⟨g, off, none⟩) kids.length c] 56)).alloc (.cells #[.int .i8 (q : Int), .string xt.v, .int .i8 xt.a.k, .int .i64 xt.a.n, .string xt.a.s, .slice a0 xk.length c0] 56)) u → Below w.heap.size w u ∧ u.cell? ⟨w.heap.size + 1, 0, none⟩ = some (.int .i8 (q : Int)) ∧ u.cell? ⟨w.heap.size + 1, 1, none⟩ = some (.string xt.v) ∧ u.cell? ⟨w.heap.size + 1, 2, none⟩ = some (.int .i8 xt.a.k) ∧ u.cell? ⟨w.heap.size + 1, 3, none⟩ = some (.int .i64 xt.a.n) ∧ u.cell? ⟨w.heap.size + 1, 4, none⟩ = some (.string xt.a.s) ∧ u.cell? ⟨w.heap.size + 1, 5, none⟩ = some (.slice a0 xk.length c0)) := fun u hu => by
            have B2 := BA.alloc BA.size (.cells #[.int .i8 (q : Int), .string xt.v, .int .i8 xt.a.k, .int .i64 xt.a.n, .string xt.a.s, .slice a0 xk.length c0] 56)
            have hK : XAt ((w.alloc (.cells #[.int .i8 (p : Int), .string t.v, .int .i8 t.a.k, .int .i64 t.a.n, .string t.a.s, .slice (some ⟨g, off, none⟩) kids.length c] 56)).alloc (.cells #[.int .i8 (q : Int), .string xt.v, .int .i8 xt.a.k, .int .i64 xt.a.n, .string xt.a.s, .slice a0 xk.length c0] 56)) (w.heap.size + 1) 0 q xt (.slice a0 xk.length c0) := ⟨by go_simp, by go_simp, by go_simp, by go_simp, by go_simp, by go_simp⟩
            obtain ⟨z0, z1, z2, z3, z4, z5⟩ := hK.below hu (by simp)
            exact ⟨B2.trans (hu.mono B2.size), z0, z1, z2, z3, z4, z5⟩
          obtain ⟨x0, x1, x2, x3, x4, x5⟩ := hx0.below BA hg
          simp only [Nat.zero_mul, Nat.add_zero] at x0 x1 x2 x3 x4 x5
          have z5 := HXB.out.c5
          simp only [Nat.zero_add] at z5
          have e1 : ∀ b, (⟨#[45]⟩ : ByteArray) ++ txt (kidT b tx) = txt (opT 1 ++ kidT b tx) := fun b => by rw [txt_one, txt_app]; rfl
          have s1 : ∀ b, ¬ 9223372036854775807 < 1 + (txt (kidT b tx)).size := fun b => by rw [txt_size]; have := (kidT_len b tx).2; have := HLk.out; omega
          have G : (((q : Int) == 0) = false ∧ unsB (.mk q xt xk) = false) ∨ (((q : Int) == 0) = true ∧ holdT q = 4 ∧ xt.v.toList.isEmpty = false ∧ unsB (.mk q xt xk) = false) ∨ (((q : Int) == 0) = true ∧ holdT q = 4 ∧ xt.v.toList.isEmpty = true ∧ (xt.a.k == 1) = false ∧ unsB (.mk q xt xk) = false) ∨ (((q : Int) == 0) = true ∧ holdT q = 4 ∧ xt.v.toList.isEmpty = true ∧ (xt.a.k == 1) = true ∧ decide (0 ≤ xt.a.n) = false ∧ unsB (.mk q xt xk) = false) ∨ (((q : Int) == 0) = true ∧ holdT q = 4 ∧ xt.v.toList.isEmpty = true ∧ (xt.a.k == 1) = true ∧ decide (0 ≤ xt.a.n) = true ∧ unsB (.mk q xt xk) = true) := by
            by_cases q0 : q = 0
            · subst q0
              have hnv : exprB r (.mk (0 : Nat) xt xk) = true := HV0.out
              by_cases hv : xt.v = noS
              · have hve : xt.v.toList.isEmpty = true := by rw [hv, ByteArray.toList_eq]; rfl
                by_cases hk1 : xt.a.k = 1
                · have hkb : (xt.a.k == 1) = true := by rw [hk1]; rfl
                  by_cases hn0 : 0 ≤ xt.a.n
                  · exact .inr (.inr (.inr (.inr ⟨rfl, rfl, hve, hkb, decide_eq_true hn0, by simp [unsB, op_mk, t_mk, hk1, hn0]⟩)))
                  · exact .inr (.inr (.inr (.inl ⟨rfl, rfl, hve, hkb, decide_eq_false hn0, by simp [unsB, op_mk, t_mk, hk1, hn0]⟩)))
                · exact .inr (.inr (.inl ⟨rfl, rfl, hve, by rw [beq_eq_false_iff_ne]; exact hk1, by simp [unsB, op_mk, t_mk, hk1]⟩))
              · refine .inr (.inl ⟨rfl, rfl, some_iff _ hv, ?_⟩)
                have hz : xt.a = V0 := by
                  cases r with
                  | zero => cases hnv
                  | succ r =>
                    exact named_zero ((exprB_form hnv).2.2.2.1 rfl) hv
                simp [unsB, op_mk, t_mk, hz, V0]
            · exact .inl ⟨by rw [beq_eq_false_iff_ne]; omega, by simp [unsB, op_mk]; omega⟩
          clear hx0 HXB hpz BA HV0
          rcases G with ⟨g0, gu⟩ | ⟨g0, gh, gv, gu⟩ | ⟨g0, gh, gv, gk, gu⟩ | ⟨g0, gh, gv, gk, gn, gu⟩ | ⟨g0, gh, gv, gk, gn, gu⟩
          · rw [gu, Bool.or_false]
            clear gu
            generalize holdT q = h2 at hv2 HFa ⊢
            rcases hv2 with hv2 | hv2
            · have hd : decide (h2 < 3) = true := by rcases hv2 with rfl | rfl <;> rfl
              rw [hd]
              clear hd
              obtain ⟨TX, hTX⟩ : ∃ TX, txt (opT 1 ++ kidT true tx) = TX := ⟨_, rfl⟩
              rw [hTX]
              have HTX : Hid _ := hTX
              clear hTX
              have eb := e1 true
              have sb := s1 true
              have HWi : Hid (∀ u, Below w.heap.size w u → Calls Tryz.prog 92 #[.agg #[.int .i8 (q : Int), .string xt.v, .int .i8 xt.a.k, .int .i64 xt.a.n, .string xt.a.s, .slice a0 xk.length c0], .bool true] u fun r' w' => r' = .returned (.string (txt (kidT true tx))) ∧ Below u.heap.size u w') := HWI.out true
              obtain ⟨S, hS⟩ : ∃ S, txt (kidT true tx) = S := ⟨_, rfl⟩
              rw [hS] at eb sb HWi
              rw [HTX.out] at eb
              clear e1 s1 HWI hS
              rcases hv2 with rfl | rfl
              all_goals
                go_enter Tryz.func58, Tryz.ntmps58
                go_wp2_with fail
                generalize hWW : (w.alloc (.cells #[.int .i8 (p : Int), .string t.v, .int .i8 t.a.k, .int .i64 t.a.n, .string t.a.s, .slice (some ⟨g, off, none⟩) kids.length c] 56)).alloc (.cells #[.int .i8 (q : Int), .string xt.v, .int .i8 xt.a.k, .int .i64 xt.a.n, .string xt.a.s, .slice a0 xk.length c0] 56) = W at HC ⊢
                clear hWW x0 x1 x2 x3 x4 x5 z5
                have hB0 : Below W.heap.size W W := Below.refl _ _
                refine wp_region_held_drew (S := fun u => (Below W.heap.size W u) ∧ u.cell? ⟨w.heap.size + 1, 0, none⟩ = some (.int .i8 (q : Int)) ∧ u.cell? ⟨w.heap.size + 1, 1, none⟩ = some (.string xt.v) ∧ u.cell? ⟨w.heap.size + 1, 2, none⟩ = some (.int .i8 xt.a.k) ∧ u.cell? ⟨w.heap.size + 1, 3, none⟩ = some (.int .i64 xt.a.n) ∧ u.cell? ⟨w.heap.size + 1, 4, none⟩ = some (.string xt.a.s) ∧ u.cell? ⟨w.heap.size + 1, 5, none⟩ = some (.slice a0 xk.length c0)) (by kernel_rfl) ⟨hB0.drew, (HC.out _ hB0.drew).2⟩ (fun hHeld => ?_)
                refine wpAnyH_take (i := 0) (v := ?_) rfl (by kernel_rfl) (by kernel_rfl) (by kernel_rfl) (fun _ _ _ h => h) (Or.inl ⟨by rfl, ?_⟩) (by assumption) ?_
                rotate_left
                · (intro u hSw; (try dsimp only at hSw); go_simp; try (with_reducible rfl))
                try simp only [List.getElem_toArray, List.getElem_cons_zero, List.getElem_cons_succ, Act.put, List.setIfInBounds_toArray, List.set_cons_zero, List.set_cons_succ]
                refine wpAnyH_take (i := 1) (v := ?_) rfl (by kernel_rfl) (by kernel_rfl) (by kernel_rfl) (fun _ _ _ h => h) (Or.inl ⟨by rfl, ?_⟩) (by assumption) ?_
                rotate_left
                · (intro u hSw; (try dsimp only at hSw); go_simp; try (with_reducible rfl))
                try simp only [List.getElem_toArray, List.getElem_cons_zero, List.getElem_cons_succ, Act.put, List.setIfInBounds_toArray, List.set_cons_zero, List.set_cons_succ]
                refine wpAnyH_ready (rs := [2]) (by kernel_rfl) (by simp) ?_
                refine AllReadyH.cons (o := { dst := some 60, op := Op.call { callee := Callee.value (Operand.func 93), args := #[Operand.tmp 59], argTypes := #[56] }, type := 3, pos := "ref.go:93", after := #[{ on := 1, ground := Ground.data }], guard := none }) rfl (fun K hK => ?_) AllReadyH.nil
                go_simp
                refine Calls.mono (HFa.out _) ?_
                rintro ee w2 ⟨rfl, b2⟩
                have b2' : Below W.heap.size W w2 := hB0.drew.trans b2
                refine hK.out _ _ ⟨b2', (HC.out _ b2').2⟩ (fun hHeld2 => ?_)
                clear hK K hHeld
                try simp only [List.getElem_toArray, List.getElem_cons_zero, List.getElem_cons_succ, Act.put, List.setIfInBounds_toArray, List.set_cons_zero, List.set_cons_succ]
                refine wpAnyH_take (i := 3) (v := ?_) rfl (by kernel_rfl) (by kernel_rfl) (by kernel_rfl) (fun _ _ _ h => h) (Or.inl ⟨by rfl, ?_⟩) (by assumption) ?_
                rotate_left
                · (intro u hSw; (try dsimp only at hSw); go_simp; try (with_reducible rfl))
                try simp only [List.getElem_toArray, List.getElem_cons_zero, List.getElem_cons_succ, Act.put, List.setIfInBounds_toArray, List.set_cons_zero, List.set_cons_succ]
                refine wpAnyH_take (i := 4) (v := ?_) rfl (by kernel_rfl) (by kernel_rfl) (by kernel_rfl) (fun _ _ _ h => h) (Or.inl ⟨by rfl, ?_⟩) (by assumption) ?_
                rotate_left
                · (intro u hSw; (try dsimp only at hSw); go_simp; try (with_reducible rfl))
                try simp only [List.getElem_toArray, List.getElem_cons_zero, List.getElem_cons_succ, Act.put, List.setIfInBounds_toArray, List.set_cons_zero, List.set_cons_succ]
                refine wpAnyH_take (i := 5) (v := undef) rfl (by kernel_rfl) (by kernel_rfl) (by kernel_rfl) (fun _ _ _ h => h) (Or.inr ⟨by kernel_rfl, rfl⟩) (by assumption) ?_
                try simp only [List.getElem_toArray, List.getElem_cons_zero, List.getElem_cons_succ, Act.put, List.setIfInBounds_toArray, List.set_cons_zero, List.set_cons_succ]
                refine wpAnyH_take (i := 6) (v := ?_) rfl (by kernel_rfl) (by kernel_rfl) (by kernel_rfl) (fun _ _ _ h => h) (Or.inl ⟨by rfl, ?_⟩) (by assumption) ?_
                rotate_left
                · (intro u hSw; (try dsimp only at hSw); go_simp; try (with_reducible rfl))
                try simp only [List.getElem_toArray, List.getElem_cons_zero, List.getElem_cons_succ, Act.put, List.setIfInBounds_toArray, List.set_cons_zero, List.set_cons_succ]
                refine wpAnyH_ready (rs := [7]) (by kernel_rfl) (by simp) ?_
                refine AllReadyH.cons (o := { dst := some 65, op := Op.call { callee := Callee.value (Operand.func 92), args := #[Operand.tmp 58, Operand.tmp 64], argTypes := #[56, 4] }, type := 9, pos := "ref.go:93", after := #[{ on := 0, ground := Ground.data }, { on := 6, ground := Ground.data }, { on := 4, ground := Ground.chain }], guard := none }) rfl (fun K hK => ?_) AllReadyH.nil
                go_simp
                refine Calls.mono (HWi.out _ (HC.out _ b2').1) ?_
                rintro ee w3 ⟨rfl, b3⟩
                have b3' : Below W.heap.size W w3 := b2'.trans (b3.mono b2'.size)
                refine hK.out _ _ ⟨b3', (HC.out _ b3').2⟩ (fun hHeld3 => ?_)
                clear hK K hHeld2
                try simp only [List.getElem_toArray, List.getElem_cons_zero, List.getElem_cons_succ, Act.put, List.setIfInBounds_toArray, List.set_cons_zero, List.set_cons_succ]
                refine wpAnyH_take (i := 8) (v := ?_) rfl (by kernel_rfl) (by kernel_rfl) (by kernel_rfl) (fun _ _ _ h => h) (Or.inl ⟨by rfl, ?_⟩) (by assumption) ?_
                rotate_left
                · (intro u hSw; (try dsimp only at hSw); go_simp; try (with_reducible rfl))
                try simp only [List.getElem_toArray, List.getElem_cons_zero, List.getElem_cons_succ, Act.put, List.setIfInBounds_toArray, List.set_cons_zero, List.set_cons_succ]
                refine wpAnyH_take (i := 9) (v := ?_) rfl (by kernel_rfl) (by kernel_rfl) (by kernel_rfl) (fun _ _ _ h => h) (Or.inl ⟨by rfl, ?_⟩) (by assumption) ?_
                rotate_left
                · (intro u hSw; (try dsimp only at hSw); go_simp; try (with_reducible rfl))
                try simp only [List.getElem_toArray, List.getElem_cons_zero, List.getElem_cons_succ, Act.put, List.setIfInBounds_toArray, List.set_cons_zero, List.set_cons_succ]
                refine wpAnyH_done (by kernel_rfl) ?_ _
                go_wp2
                go_ret
                exact ⟨rfl, (HC.out _ b3').1⟩
            · have hd : decide (h2 < 3) = false := by rcases hv2 with rfl | rfl <;> rfl
              rw [hd]
              clear hd
              obtain ⟨TX, hTX⟩ : ∃ TX, txt (opT 1 ++ kidT false tx) = TX := ⟨_, rfl⟩
              rw [hTX]
              have HTX : Hid _ := hTX
              clear hTX
              have eb := e1 false
              have sb := s1 false
              have HWi : Hid (∀ u, Below w.heap.size w u → Calls Tryz.prog 92 #[.agg #[.int .i8 (q : Int), .string xt.v, .int .i8 xt.a.k, .int .i64 xt.a.n, .string xt.a.s, .slice a0 xk.length c0], .bool false] u fun r' w' => r' = .returned (.string (txt (kidT false tx))) ∧ Below u.heap.size u w') := HWI.out false
              obtain ⟨S, hS⟩ : ∃ S, txt (kidT false tx) = S := ⟨_, rfl⟩
              rw [hS] at eb sb HWi
              rw [HTX.out] at eb
              clear e1 s1 HWI hS
              rcases hv2 with rfl | rfl
              all_goals
                go_enter Tryz.func58, Tryz.ntmps58
                go_wp2_with fail
                generalize hWW : (w.alloc (.cells #[.int .i8 (p : Int), .string t.v, .int .i8 t.a.k, .int .i64 t.a.n, .string t.a.s, .slice (some ⟨g, off, none⟩) kids.length c] 56)).alloc (.cells #[.int .i8 (q : Int), .string xt.v, .int .i8 xt.a.k, .int .i64 xt.a.n, .string xt.a.s, .slice a0 xk.length c0] 56) = W at HC ⊢
                clear hWW x0 x1 x2 x3 x4 x5 z5
                have hB0 : Below W.heap.size W W := Below.refl _ _
                go_region_held3 (fun u => (Below W.heap.size W u) ∧ u.cell? ⟨w.heap.size + 1, 0, none⟩ = some (.int .i8 (q : Int)) ∧ u.cell? ⟨w.heap.size + 1, 1, none⟩ = some (.string xt.v) ∧ u.cell? ⟨w.heap.size + 1, 2, none⟩ = some (.int .i8 xt.a.k) ∧ u.cell? ⟨w.heap.size + 1, 3, none⟩ = some (.int .i64 xt.a.n) ∧ u.cell? ⟨w.heap.size + 1, 4, none⟩ = some (.string xt.a.s) ∧ u.cell? ⟨w.heap.size + 1, 5, none⟩ = some (.slice a0 xk.length c0))
                  (first
                    | assumption
                    | exact ⟨hB0.drew, (HC.out _ hB0.drew).2⟩
                    | exact ⟨(by assumption), (HC.out _ (by assumption)).2⟩)
                  (first
                    | (go_at_call 93; refine Calls.mono (HFa.out _) ?_; rintro ee w2 ⟨rfl, b2⟩; have b2' : Below W.heap.size W w2 := hB0.drew.trans b2)
                    | (go_at_call 92; refine Calls.mono (HWi.out _ (HC.out _ b2').1) ?_; rintro ee w3 ⟨rfl, b3⟩; have b3' : Below W.heap.size W w3 := b2'.trans (b3.mono b2'.size))
                    | fail)
                go_wp2
                go_ret
                exact ⟨rfl, (HC.out _ b3').1⟩
          · rw [gu, gh, show (decide ((4 : Int) < 3) || false) = false from rfl]
            rw [gh] at HFa
            clear gu gh hv2
            obtain ⟨TX, hTX⟩ : ∃ TX, txt (opT 1 ++ kidT false tx) = TX := ⟨_, rfl⟩
            rw [hTX]
            have HTX : Hid _ := hTX
            clear hTX
            have eb := e1 false
            have sb := s1 false
            have HWi : Hid (∀ u, Below w.heap.size w u → Calls Tryz.prog 92 #[.agg #[.int .i8 (q : Int), .string xt.v, .int .i8 xt.a.k, .int .i64 xt.a.n, .string xt.a.s, .slice a0 xk.length c0], .bool false] u fun r' w' => r' = .returned (.string (txt (kidT false tx))) ∧ Below u.heap.size u w') := HWI.out false
            obtain ⟨S, hS⟩ : ∃ S, txt (kidT false tx) = S := ⟨_, rfl⟩
            rw [hS] at eb sb HWi
            rw [HTX.out] at eb
            clear e1 s1 HWI hS
            go_enter Tryz.func58, Tryz.ntmps58
            go_wp2_with fail
            generalize hWW : (w.alloc (.cells #[.int .i8 (p : Int), .string t.v, .int .i8 t.a.k, .int .i64 t.a.n, .string t.a.s, .slice (some ⟨g, off, none⟩) kids.length c] 56)).alloc (.cells #[.int .i8 (q : Int), .string xt.v, .int .i8 xt.a.k, .int .i64 xt.a.n, .string xt.a.s, .slice a0 xk.length c0] 56) = W at HC ⊢
            clear hWW x0 x1 x2 x3 x4 x5 z5
            have hB0 : Below W.heap.size W W := Below.refl _ _
            go_region_held3 (fun u => (Below W.heap.size W u) ∧ u.cell? ⟨w.heap.size + 1, 0, none⟩ = some (.int .i8 (q : Int)) ∧ u.cell? ⟨w.heap.size + 1, 1, none⟩ = some (.string xt.v) ∧ u.cell? ⟨w.heap.size + 1, 2, none⟩ = some (.int .i8 xt.a.k) ∧ u.cell? ⟨w.heap.size + 1, 3, none⟩ = some (.int .i64 xt.a.n) ∧ u.cell? ⟨w.heap.size + 1, 4, none⟩ = some (.string xt.a.s) ∧ u.cell? ⟨w.heap.size + 1, 5, none⟩ = some (.slice a0 xk.length c0))
              (first
                | assumption
                | exact ⟨hB0.drew, (HC.out _ hB0.drew).2⟩
                | exact ⟨(by assumption), (HC.out _ (by assumption)).2⟩)
              (first
                | (go_at_call 93; refine Calls.mono (HFa.out _) ?_; rintro ee w2 ⟨rfl, b2⟩; have b2' : Below W.heap.size W w2 := hB0.drew.trans b2)
                | (go_at_call 92; refine Calls.mono (HWi.out _ (HC.out _ b2').1) ?_; rintro ee w3 ⟨rfl, b3⟩; have b3' : Below W.heap.size W w3 := b2'.trans (b3.mono b2'.size))
                | fail)
            go_wp2
            go_ret
            exact ⟨rfl, (HC.out _ b3').1⟩
          · rw [gu, gh, show (decide ((4 : Int) < 3) || false) = false from rfl]
            rw [gh] at HFa
            clear gu gh hv2
            obtain ⟨TX, hTX⟩ : ∃ TX, txt (opT 1 ++ kidT false tx) = TX := ⟨_, rfl⟩
            rw [hTX]
            have HTX : Hid _ := hTX
            clear hTX
            have eb := e1 false
            have sb := s1 false
            have HWi : Hid (∀ u, Below w.heap.size w u → Calls Tryz.prog 92 #[.agg #[.int .i8 (q : Int), .string xt.v, .int .i8 xt.a.k, .int .i64 xt.a.n, .string xt.a.s, .slice a0 xk.length c0], .bool false] u fun r' w' => r' = .returned (.string (txt (kidT false tx))) ∧ Below u.heap.size u w') := HWI.out false
            obtain ⟨S, hS⟩ : ∃ S, txt (kidT false tx) = S := ⟨_, rfl⟩
            rw [hS] at eb sb HWi
            rw [HTX.out] at eb
            clear e1 s1 HWI hS
            go_enter Tryz.func58, Tryz.ntmps58
            go_wp2_with fail
            generalize hWW : (w.alloc (.cells #[.int .i8 (p : Int), .string t.v, .int .i8 t.a.k, .int .i64 t.a.n, .string t.a.s, .slice (some ⟨g, off, none⟩) kids.length c] 56)).alloc (.cells #[.int .i8 (q : Int), .string xt.v, .int .i8 xt.a.k, .int .i64 xt.a.n, .string xt.a.s, .slice a0 xk.length c0] 56) = W at HC ⊢
            clear hWW x0 x1 x2 x3 x4 x5 z5
            have hB0 : Below W.heap.size W W := Below.refl _ _
            go_region_held3 (fun u => (Below W.heap.size W u) ∧ u.cell? ⟨w.heap.size + 1, 0, none⟩ = some (.int .i8 (q : Int)) ∧ u.cell? ⟨w.heap.size + 1, 1, none⟩ = some (.string xt.v) ∧ u.cell? ⟨w.heap.size + 1, 2, none⟩ = some (.int .i8 xt.a.k) ∧ u.cell? ⟨w.heap.size + 1, 3, none⟩ = some (.int .i64 xt.a.n) ∧ u.cell? ⟨w.heap.size + 1, 4, none⟩ = some (.string xt.a.s) ∧ u.cell? ⟨w.heap.size + 1, 5, none⟩ = some (.slice a0 xk.length c0))
              (first
                | assumption
                | exact ⟨hB0.drew, (HC.out _ hB0.drew).2⟩
                | exact ⟨(by assumption), (HC.out _ (by assumption)).2⟩)
              (first
                | (go_at_call 93; refine Calls.mono (HFa.out _) ?_; rintro ee w2 ⟨rfl, b2⟩; have b2' : Below W.heap.size W w2 := hB0.drew.trans b2)
                | (go_at_call 92; refine Calls.mono (HWi.out _ (HC.out _ b2').1) ?_; rintro ee w3 ⟨rfl, b3⟩; have b3' : Below W.heap.size W w3 := b2'.trans (b3.mono b2'.size))
                | fail)
            go_wp2
            go_ret
            exact ⟨rfl, (HC.out _ b3').1⟩
          · rw [gu, gh, show (decide ((4 : Int) < 3) || false) = false from rfl]
            rw [gh] at HFa
            clear gu gh hv2
            obtain ⟨TX, hTX⟩ : ∃ TX, txt (opT 1 ++ kidT false tx) = TX := ⟨_, rfl⟩
            rw [hTX]
            have HTX : Hid _ := hTX
            clear hTX
            have eb := e1 false
            have sb := s1 false
            have HWi : Hid (∀ u, Below w.heap.size w u → Calls Tryz.prog 92 #[.agg #[.int .i8 (q : Int), .string xt.v, .int .i8 xt.a.k, .int .i64 xt.a.n, .string xt.a.s, .slice a0 xk.length c0], .bool false] u fun r' w' => r' = .returned (.string (txt (kidT false tx))) ∧ Below u.heap.size u w') := HWI.out false
            obtain ⟨S, hS⟩ : ∃ S, txt (kidT false tx) = S := ⟨_, rfl⟩
            rw [hS] at eb sb HWi
            rw [HTX.out] at eb
            clear e1 s1 HWI hS
            go_enter Tryz.func58, Tryz.ntmps58
            go_wp2_with fail
            generalize hWW : (w.alloc (.cells #[.int .i8 (p : Int), .string t.v, .int .i8 t.a.k, .int .i64 t.a.n, .string t.a.s, .slice (some ⟨g, off, none⟩) kids.length c] 56)).alloc (.cells #[.int .i8 (q : Int), .string xt.v, .int .i8 xt.a.k, .int .i64 xt.a.n, .string xt.a.s, .slice a0 xk.length c0] 56) = W at HC ⊢
            clear hWW x0 x1 x2 x3 x4 x5 z5
            have hB0 : Below W.heap.size W W := Below.refl _ _
            go_region_held3 (fun u => (Below W.heap.size W u) ∧ u.cell? ⟨w.heap.size + 1, 0, none⟩ = some (.int .i8 (q : Int)) ∧ u.cell? ⟨w.heap.size + 1, 1, none⟩ = some (.string xt.v) ∧ u.cell? ⟨w.heap.size + 1, 2, none⟩ = some (.int .i8 xt.a.k) ∧ u.cell? ⟨w.heap.size + 1, 3, none⟩ = some (.int .i64 xt.a.n) ∧ u.cell? ⟨w.heap.size + 1, 4, none⟩ = some (.string xt.a.s) ∧ u.cell? ⟨w.heap.size + 1, 5, none⟩ = some (.slice a0 xk.length c0))
              (first
                | assumption
                | exact ⟨hB0.drew, (HC.out _ hB0.drew).2⟩
                | exact ⟨(by assumption), (HC.out _ (by assumption)).2⟩)
              (first
                | (go_at_call 93; refine Calls.mono (HFa.out _) ?_; rintro ee w2 ⟨rfl, b2⟩; have b2' : Below W.heap.size W w2 := hB0.drew.trans b2)
                | (go_at_call 92; refine Calls.mono (HWi.out _ (HC.out _ b2').1) ?_; rintro ee w3 ⟨rfl, b3⟩; have b3' : Below W.heap.size W w3 := b2'.trans (b3.mono b2'.size))
                | fail)
            go_wp2
            go_ret
            exact ⟨rfl, (HC.out _ b3').1⟩
          · rw [gu, gh, show (decide ((4 : Int) < 3) || true) = true from rfl]
            rw [gh] at HFa
            clear gu gh hv2
            obtain ⟨TX, hTX⟩ : ∃ TX, txt (opT 1 ++ kidT true tx) = TX := ⟨_, rfl⟩
            rw [hTX]
            have HTX : Hid _ := hTX
            clear hTX
            have eb := e1 true
            have sb := s1 true
            have HWi : Hid (∀ u, Below w.heap.size w u → Calls Tryz.prog 92 #[.agg #[.int .i8 (q : Int), .string xt.v, .int .i8 xt.a.k, .int .i64 xt.a.n, .string xt.a.s, .slice a0 xk.length c0], .bool true] u fun r' w' => r' = .returned (.string (txt (kidT true tx))) ∧ Below u.heap.size u w') := HWI.out true
            obtain ⟨S, hS⟩ : ∃ S, txt (kidT true tx) = S := ⟨_, rfl⟩
            rw [hS] at eb sb HWi
            rw [HTX.out] at eb
            clear e1 s1 HWI hS
            go_enter Tryz.func58, Tryz.ntmps58
            go_wp2_with fail
            generalize hWW : (w.alloc (.cells #[.int .i8 (p : Int), .string t.v, .int .i8 t.a.k, .int .i64 t.a.n, .string t.a.s, .slice (some ⟨g, off, none⟩) kids.length c] 56)).alloc (.cells #[.int .i8 (q : Int), .string xt.v, .int .i8 xt.a.k, .int .i64 xt.a.n, .string xt.a.s, .slice a0 xk.length c0] 56) = W at HC ⊢
            clear hWW x0 x1 x2 x3 x4 x5 z5
            have hB0 : Below W.heap.size W W := Below.refl _ _
            go_region_held3 (fun u => (Below W.heap.size W u) ∧ u.cell? ⟨w.heap.size + 1, 0, none⟩ = some (.int .i8 (q : Int)) ∧ u.cell? ⟨w.heap.size + 1, 1, none⟩ = some (.string xt.v) ∧ u.cell? ⟨w.heap.size + 1, 2, none⟩ = some (.int .i8 xt.a.k) ∧ u.cell? ⟨w.heap.size + 1, 3, none⟩ = some (.int .i64 xt.a.n) ∧ u.cell? ⟨w.heap.size + 1, 4, none⟩ = some (.string xt.a.s) ∧ u.cell? ⟨w.heap.size + 1, 5, none⟩ = some (.slice a0 xk.length c0))
              (first
                | assumption
                | exact ⟨hB0.drew, (HC.out _ hB0.drew).2⟩
                | exact ⟨(by assumption), (HC.out _ (by assumption)).2⟩)
              (first
                | (go_at_call 93; refine Calls.mono (HFa.out _) ?_; rintro ee w2 ⟨rfl, b2⟩; have b2' : Below W.heap.size W w2 := hB0.drew.trans b2)
                | (go_at_call 92; refine Calls.mono (HWi.out _ (HC.out _ b2').1) ?_; rintro ee w3 ⟨rfl, b3⟩; have b3' : Below W.heap.size W w3 := b2'.trans (b3.mono b2'.size))
                | fail)
            go_wp2
            go_ret
            exact ⟨rfl, (HC.out _ b3').1⟩
        · have dp1 : ((p : Int) == 1) = false := by rw [beq_eq_false_iff_ne]; omega
          have hk2 : kids.length = 2 := by
            rw [f3]
            have : ∀ q : Fin 11, q.val ≠ 0 → q.val ≠ 1 → ¬ 8 ≤ q.val → kidsOf q.val = 2 := by decide
            exact this ⟨p, hp11⟩ hp0 hp1 hp8
          have hk1 : 1 < kids.length := by omega
          obtain ⟨a1, c1, hx1, he1⟩ := hKS 1 hk1
          obtain ⟨q', hq', hq11'⟩ := HOP.out 1 hk1 hpz
          have hT : Hid (textE (r + 1) (.mk p t kids) = kidT (decide (holdT q < holdT p)) (textE r (atE kids 0)) ++ (([32] ++ opT p ++ [32]) ++ kidT (decide (holdT q' ≤ holdT p)) (textE r (atE kids 1)))) := by
            show _ = _
            rw [HT.out, if_neg hpz, if_neg (by omega), if_neg (by omega), hq, hq', Int.toNat_natCast, Int.toNat_natCast]
          rw [hT.out] at HL ⊢
          have HLk : Hid ((textE r (atE kids 0)).length ≤ 1000000000 ∧ (textE r (atE kids 1)).length ≤ 1000000000) := by
            have h1 := HL.out
            have h2 := (kidT_len (decide (holdT q < holdT p)) (textE r (atE kids 0))).1
            have h3 := (kidT_len (decide (holdT q' ≤ holdT p)) (textE r (atE kids 1))).1
            simp only [List.length_append] at h1
            show _ ∧ _
            omega
          have IH0 : Hid (∀ u, EIs u d (atE kids 0) a0 c0 → Calls Tryz.prog 58 #[(atE kids 0).val a0 c0] u fun r' w' => r' = .returned (.string (txt (textE r (atE kids 0)))) ∧ Below u.heap.size u w') := fun u hu => IH.out 0 hk0 hpz HLk.out.1 a0 c0 u hu
          have IH1 : Hid (∀ u, EIs u d (atE kids 1) a1 c1 → Calls Tryz.prog 58 #[(atE kids 1).val a1 c1] u fun r' w' => r' = .returned (.string (txt (textE r (atE kids 1)))) ∧ Below u.heap.size u w') := fun u hu => IH.out 1 hk1 hpz HLk.out.2 a1 c1 u hu
          have HE0 : Hid (EIs w d (atE kids 0) a0 c0) := he0
          have HE1 : Hid (EIs w d (atE kids 1) a1 c1) := he1
          have HSg : Hid (∀ u, Calls Tryz.prog 94 #[.int .i8 (p : Int)] u fun r w' => r = .returned (.string (opS p)) ∧ w' = u) := fun u => sign6_any p (by omega) (by omega) u
          have HFp : Hid (∀ u, Calls Tryz.prog 93 #[.agg #[.int .i8 (p : Int), .string t.v, .int .i8 t.a.k, .int .i64 t.a.n, .string t.a.s, .slice (some ⟨g, off, none⟩) kids.length c]] u fun r' w' => r' = .returned (.int .i64 (holdT p)) ∧ Below u.heap.size u w') := fun u => fast_any p hp11 t _ u
          have hk1' : (1 : Int) < (kids.length : Int) := by omega
          clear HT hT IH HOP HK f3 f4 f5 hp0 hKS he0 he1 hp8 HL hp1 hk2 hk1
          generalize atE kids 0 = x at hx0 IH0 hq HLk HE0 ⊢
          generalize atE kids 1 = x' at hx1 IH1 hq' HLk HE1 ⊢
          obtain ⟨xo, xt, xk⟩ := x
          obtain ⟨xo', xt', xk'⟩ := x'
          simp only [op_mk, t_mk, kids_mk] at hx0 hq hx1 hq'
          subst hq hq'
          generalize textE r (.mk (q : Int) xt xk) = tx at IH0 HLk ⊢
          generalize textE r (.mk (q' : Int) xt' xk') = tx' at IH1 HLk ⊢
          have HFa : Hid (∀ u, Calls Tryz.prog 93 #[.agg #[.int .i8 (q : Int), .string xt.v, .int .i8 xt.a.k, .int .i64 xt.a.n, .string xt.a.s, .slice a0 xk.length c0]] u fun r' w' => r' = .returned (.int .i64 (holdT q)) ∧ Below u.heap.size u w') := fun u => fast_any q hq11 xt _ u
          have HFb : Hid (∀ u, Calls Tryz.prog 93 #[.agg #[.int .i8 (q' : Int), .string xt'.v, .int .i8 xt'.a.k, .int .i64 xt'.a.n, .string xt'.a.s, .slice a1 xk'.length c1]] u fun r' w' => r' = .returned (.int .i64 (holdT q')) ∧ Below u.heap.size u w') := fun u => fast_any q' hq11' xt' _ u
          generalize holdT p = h1 at HFp ⊢
          generalize holdT q = h2 at HFa ⊢
          generalize holdT q' = h3 at HFb ⊢
          have HWa : Hid (∀ u, Below w.heap.size w u → Calls Tryz.prog 92 #[.agg #[.int .i8 (q : Int), .string xt.v, .int .i8 xt.a.k, .int .i64 xt.a.n, .string xt.a.s, .slice a0 xk.length c0], .bool (decide (h2 < h1))] u fun r' w' => r' = .returned (.string (txt (kidT (decide (h2 < h1)) tx))) ∧ Below u.heap.size u w') := fun u hu => within_any (.mk q xt xk) a0 c0 tx _ u (by have := HLk.out; omega) (fun u2 hu2 => IH0.out u2 (HE0.out.below (hu.trans (hu2.mono hu.size))))
          have HWb : Hid (∀ u, Below w.heap.size w u → Calls Tryz.prog 92 #[.agg #[.int .i8 (q' : Int), .string xt'.v, .int .i8 xt'.a.k, .int .i64 xt'.a.n, .string xt'.a.s, .slice a1 xk'.length c1], .bool (decide (h3 ≤ h1))] u fun r' w' => r' = .returned (.string (txt (kidT (decide (h3 ≤ h1)) tx'))) ∧ Below u.heap.size u w') := fun u hu => within_any (.mk q' xt' xk') a1 c1 tx' _ u (by have := HLk.out; omega) (fun u2 hu2 => IH1.out u2 (HE1.out.below (hu.trans (hu2.mono hu.size))))
          obtain ⟨kt, hkt⟩ : ∃ kt, kidT (decide (h2 < h1)) tx = kt := ⟨_, rfl⟩
          obtain ⟨kt', hkt'⟩ : ∃ kt', kidT (decide (h3 ≤ h1)) tx' = kt' := ⟨_, rfl⟩
          have hkl : kt.length ≤ 1000000002 := by rw [← hkt]; have := (kidT_len (decide (h2 < h1)) tx).2; have := HLk.out.1; omega
          have hkl' : kt'.length ≤ 1000000002 := by rw [← hkt']; have := (kidT_len (decide (h3 ≤ h1)) tx').2; have := HLk.out.2; omega
          rw [hkt] at HWa ⊢
          rw [hkt'] at HWb ⊢
          clear hkt hkt' IH0 IH1 HE0 HE1 HLk
          have e1 : txt kt ++ (⟨#[32]⟩ : ByteArray) = txt (kt ++ [32]) := by rw [txt_one, txt_app]
          have e2 : txt (kt ++ [32]) ++ opS p = txt (kt ++ [32] ++ opT p) := by rw [opS_txt, txt_app]
          have e3 : txt (kt ++ [32] ++ opT p) ++ (⟨#[32]⟩ : ByteArray) = txt (kt ++ [32] ++ opT p ++ [32]) := by rw [txt_one, txt_app]
          have e4 : txt (kt ++ [32] ++ opT p ++ [32]) ++ txt kt' = txt (kt ++ (([32] ++ opT p ++ [32]) ++ kt')) := by rw [txt_app]; simp [List.append_assoc]
          have s1 : ¬ 9223372036854775807 < (txt kt).size + 1 := by rw [txt_size]; omega
          have s2 : ¬ 9223372036854775807 < (txt (kt ++ [32])).size + (opS p).size := by rw [opS_txt, txt_size, txt_size, List.length_append]; have := opT_len p; simp only [List.length_cons, List.length_nil]; omega
          have s3 : ¬ 9223372036854775807 < (txt (kt ++ [32] ++ opT p)).size + 1 := by rw [txt_size, List.length_append, List.length_append]; have := opT_len p; simp only [List.length_cons, List.length_nil]; omega
          have s4 : ¬ 9223372036854775807 < (txt (kt ++ [32] ++ opT p ++ [32])).size + (txt kt').size := by rw [txt_size, txt_size, List.length_append, List.length_append, List.length_append]; have := opT_len p; simp only [List.length_cons, List.length_nil]; omega
          generalize txt (kt ++ (([32] ++ opT p ++ [32]) ++ kt')) = TX at e4 ⊢
          generalize txt (kt ++ [32] ++ opT p ++ [32]) = A3 at e3 e4 s4
          generalize txt (kt ++ [32] ++ opT p) = A2 at e2 e3 s3
          generalize txt (kt ++ [32]) = A1 at e1 e2 s2
          generalize txt kt = S at e1 s1 HWa
          generalize txt kt' = S' at e4 s4 HWb
          generalize opS p = O at e2 s2 HSg
          have HC : Hid (∀ u, Below (w.alloc (.cells #[.int .i8 (p : Int), .string t.v, .int .i8 t.a.k, .int .i64 t.a.n, .string t.a.s, .slice (some ⟨g, off, none⟩) kids.length c] 56)).heap.size (w.alloc (.cells #[.int .i8 (p : Int), .string t.v, .int .i8 t.a.k, .int .i64 t.a.n, .string t.a.s, .slice (some ⟨g, off, none⟩) kids.length c] 56)) u → (Below w.heap.size w u ∧ XAt u w.heap.size 0 p t (.slice (some ⟨g, off, none⟩) kids.length c)) ∧ u.cell? ⟨w.heap.size, 5, none⟩ = some (.slice (some ⟨g, off, none⟩) kids.length c) ∧ u.cell? ⟨g, off, none⟩ = some (.int .i8 (q : Int)) ∧ u.cell? ⟨g, off + 1, none⟩ = some (.string xt.v) ∧ u.cell? ⟨g, off + 2, none⟩ = some (.int .i8 xt.a.k) ∧ u.cell? ⟨g, off + 3, none⟩ = some (.int .i64 xt.a.n) ∧ u.cell? ⟨g, off + 4, none⟩ = some (.string xt.a.s) ∧ u.cell? ⟨g, off + 5, none⟩ = some (.slice a0 xk.length c0) ∧ u.cell? ⟨g, off + 6, none⟩ = some (.int .i8 (q' : Int)) ∧ u.cell? ⟨g, off + 6 + 1, none⟩ = some (.string xt'.v) ∧ u.cell? ⟨g, off + 6 + 2, none⟩ = some (.int .i8 xt'.a.k) ∧ u.cell? ⟨g, off + 6 + 3, none⟩ = some (.int .i64 xt'.a.n) ∧ u.cell? ⟨g, off + 6 + 4, none⟩ = some (.string xt'.a.s) ∧ u.cell? ⟨g, off + 6 + 5, none⟩ = some (.slice a1 xk'.length c1)) := fun u hu => by
            have hwu : Below w.heap.size w u := BA.trans (hu.mono BA.size)
            have hz := HXB.out.below hu (by simp)
            obtain ⟨y0, y1, y2, y3, y4, y5⟩ := hx0.below hwu hg
            obtain ⟨v0, v1, v2, v3, v4, v5⟩ := hx1.below hwu hg
            simp only [Nat.zero_mul, Nat.add_zero] at y0 y1 y2 y3 y4 y5
            simp only [Nat.one_mul] at v0 v1 v2 v3 v4 v5
            exact ⟨⟨hwu, hz⟩, hz.c5, y0, y1, y2, y3, y4, y5, v0, v1, v2, v3, v4, v5⟩
          clear hx0 hx1 HXB hpz BA hkl hkl'
          go_enter Tryz.func58, Tryz.ntmps58
          go_upto_region 12 with fail
          generalize hWW : w.alloc (.cells #[.int .i8 (p : Int), .string t.v, .int .i8 t.a.k, .int .i64 t.a.n, .string t.a.s, .slice (some ⟨g, off, none⟩) kids.length c] 56) = W at HC ⊢
          clear hWW
          have hB0 : Below W.heap.size W W := Below.refl _ _
          have hS0 := HC.out _ hB0
          have hwW : w.heap.size < W.heap.size := World.block_lt_of_cell? _ _ hS0.1.2.c0
          go_cut [5, 6] from 67 to 74 (fun p5 p6 wc => ∃ b5 b6, p5 = .pointer (some ⟨b5, 0, none⟩) ∧ p6 = .pointer (some ⟨b6, 0, none⟩) ∧ Hid (b5 < wc.heap.size ∧ b6 < wc.heap.size ∧ Below W.heap.size W wc ∧ XAt wc b5 0 q xt (.slice a0 xk.length c0) ∧ XAt wc b6 0 q' xt' (.slice a1 xk'.length c1)))
          case first =>
            go_region_held3 (fun u => (Below W.heap.size W u) ∧ u.cell? ⟨w.heap.size, 5, none⟩ = some (.slice (some ⟨g, off, none⟩) kids.length c) ∧ u.cell? ⟨g, off, none⟩ = some (.int .i8 (q : Int)) ∧ u.cell? ⟨g, off + 1, none⟩ = some (.string xt.v) ∧ u.cell? ⟨g, off + 2, none⟩ = some (.int .i8 xt.a.k) ∧ u.cell? ⟨g, off + 3, none⟩ = some (.int .i64 xt.a.n) ∧ u.cell? ⟨g, off + 4, none⟩ = some (.string xt.a.s) ∧ u.cell? ⟨g, off + 5, none⟩ = some (.slice a0 xk.length c0) ∧ u.cell? ⟨g, off + 6, none⟩ = some (.int .i8 (q' : Int)) ∧ u.cell? ⟨g, off + 6 + 1, none⟩ = some (.string xt'.v) ∧ u.cell? ⟨g, off + 6 + 2, none⟩ = some (.int .i8 xt'.a.k) ∧ u.cell? ⟨g, off + 6 + 3, none⟩ = some (.int .i64 xt'.a.n) ∧ u.cell? ⟨g, off + 6 + 4, none⟩ = some (.string xt'.a.s) ∧ u.cell? ⟨g, off + 6 + 5, none⟩ = some (.slice a1 xk'.length c1))
              (first
                | assumption
                | (refine (fun (hb : Below W.heap.size W _) => ⟨hb, (HC.out _ hb).2⟩) ?_; repeat (first | exact hB0 | refine Below.drew ?_ | refine Below.alloc ?_ (by simp) _ | refine Below.setCell ?_ (by simp) _)))
              (fail)
            all_goals
              go_wp2_with fail
              go_meet
              case rel =>
                refine ⟨_, _, rfl, rfl, ?_⟩
                show _ ∧ _ ∧ _ ∧ _ ∧ _
                refine ⟨by simp <;> omega, by simp <;> omega, ?_, ⟨by go_simp, by go_simp, by go_simp, by go_simp, by go_simp, by go_simp⟩, ⟨by go_simp, by go_simp, by go_simp, by go_simp, by go_simp, by go_simp⟩⟩
                repeat (first | exact hB0 | refine Below.drew ?_ | refine Below.alloc ?_ (by simp) _ | refine Below.setCell ?_ (by simp) _)
          case rest =>
            obtain ⟨b5, b6, rfl, rfl, HM⟩ := hcut
            have HC3 : Hid (∀ u, Below wc.heap.size wc u → Below w.heap.size w u ∧ u.cell? ⟨w.heap.size, 0, none⟩ = some (.int .i8 (p : Int)) ∧ u.cell? ⟨w.heap.size, 1, none⟩ = some (.string t.v) ∧ u.cell? ⟨w.heap.size, 2, none⟩ = some (.int .i8 t.a.k) ∧ u.cell? ⟨w.heap.size, 3, none⟩ = some (.int .i64 t.a.n) ∧ u.cell? ⟨w.heap.size, 4, none⟩ = some (.string t.a.s) ∧ u.cell? ⟨w.heap.size, 5, none⟩ = some (.slice (some ⟨g, off, none⟩) kids.length c) ∧ u.cell? ⟨b5, 0, none⟩ = some (.int .i8 (q : Int)) ∧ u.cell? ⟨b5, 1, none⟩ = some (.string xt.v) ∧ u.cell? ⟨b5, 2, none⟩ = some (.int .i8 xt.a.k) ∧ u.cell? ⟨b5, 3, none⟩ = some (.int .i64 xt.a.n) ∧ u.cell? ⟨b5, 4, none⟩ = some (.string xt.a.s) ∧ u.cell? ⟨b5, 5, none⟩ = some (.slice a0 xk.length c0) ∧ u.cell? ⟨b6, 0, none⟩ = some (.int .i8 (q' : Int)) ∧ u.cell? ⟨b6, 1, none⟩ = some (.string xt'.v) ∧ u.cell? ⟨b6, 2, none⟩ = some (.int .i8 xt'.a.k) ∧ u.cell? ⟨b6, 3, none⟩ = some (.int .i64 xt'.a.n) ∧ u.cell? ⟨b6, 4, none⟩ = some (.string xt'.a.s) ∧ u.cell? ⟨b6, 5, none⟩ = some (.slice a1 xk'.length c1)) := fun u hu => by
              obtain ⟨l5, l6, hbw, k5, k6⟩ := HM.out
              have hu' : Below W.heap.size W u := hbw.trans (hu.mono hbw.size)
              obtain ⟨⟨hwu, hz⟩, _⟩ := HC.out u hu'
              obtain ⟨z0, z1, z2, z3, z4, z5⟩ := hz
              obtain ⟨y0, y1, y2, y3, y4, y5⟩ := k5.below hu l5
              obtain ⟨v0, v1, v2, v3, v4, v5⟩ := k6.below hu l6
              simp only [Nat.zero_add] at z1 z2 z3 z4 z5 y1 y2 y3 y4 y5 v1 v2 v3 v4 v5
              exact ⟨hwu, z0, z1, z2, z3, z4, z5, y0, y1, y2, y3, y4, y5, v0, v1, v2, v3, v4, v5⟩
            have hB1 : Below wc.heap.size wc wc.drew := (Below.refl _ _).drew
            have hS1 := HC3.out _ (Below.refl _ _)
            clear HM hS0 hB0 HC hwW
            go_wp2_with fail
            go_region_held3 (fun u => (Below wc.heap.size wc u) ∧ u.cell? ⟨w.heap.size, 0, none⟩ = some (.int .i8 (p : Int)) ∧ u.cell? ⟨w.heap.size, 1, none⟩ = some (.string t.v) ∧ u.cell? ⟨w.heap.size, 2, none⟩ = some (.int .i8 t.a.k) ∧ u.cell? ⟨w.heap.size, 3, none⟩ = some (.int .i64 t.a.n) ∧ u.cell? ⟨w.heap.size, 4, none⟩ = some (.string t.a.s) ∧ u.cell? ⟨w.heap.size, 5, none⟩ = some (.slice (some ⟨g, off, none⟩) kids.length c) ∧ u.cell? ⟨b5, 0, none⟩ = some (.int .i8 (q : Int)) ∧ u.cell? ⟨b5, 1, none⟩ = some (.string xt.v) ∧ u.cell? ⟨b5, 2, none⟩ = some (.int .i8 xt.a.k) ∧ u.cell? ⟨b5, 3, none⟩ = some (.int .i64 xt.a.n) ∧ u.cell? ⟨b5, 4, none⟩ = some (.string xt.a.s) ∧ u.cell? ⟨b5, 5, none⟩ = some (.slice a0 xk.length c0) ∧ u.cell? ⟨b6, 0, none⟩ = some (.int .i8 (q' : Int)) ∧ u.cell? ⟨b6, 1, none⟩ = some (.string xt'.v) ∧ u.cell? ⟨b6, 2, none⟩ = some (.int .i8 xt'.a.k) ∧ u.cell? ⟨b6, 3, none⟩ = some (.int .i64 xt'.a.n) ∧ u.cell? ⟨b6, 4, none⟩ = some (.string xt'.a.s) ∧ u.cell? ⟨b6, 5, none⟩ = some (.slice a1 xk'.length c1))
              (first
                | assumption
                | exact ⟨hB1, (HC3.out _ hB1).2⟩
                | exact ⟨(by assumption), (HC3.out _ (by assumption)).2⟩)
              (first
                | (go_at_call_of 93 (Value.string xt.v); refine Calls.mono (HFa.out _) ?_; rintro ee wf ⟨rfl, bf⟩; have bf' := below_next (wc := wc) (by assumption) bf)
                | (go_at_call_of 93 (Value.string xt'.v); refine Calls.mono (HFb.out _) ?_; rintro ee wf ⟨rfl, bf⟩; have bf' := below_next (wc := wc) (by assumption) bf)
                | (go_at_call_of 93 (Value.string t.v); refine Calls.mono (HFp.out _) ?_; rintro ee wf ⟨rfl, bf⟩; have bf' := below_next (wc := wc) (by assumption) bf)
                | (go_at_call_of 92 (Value.string xt.v); refine Calls.mono (HWa.out _ (HC3.out _ (by assumption)).1) ?_; rintro ee wf ⟨rfl, bf⟩; have bf' := below_next (wc := wc) (by assumption) bf)
                | (go_at_call_of 92 (Value.string xt'.v); refine Calls.mono (HWb.out _ (HC3.out _ (by assumption)).1) ?_; rintro ee wf ⟨rfl, bf⟩; have bf' := below_next (wc := wc) (by assumption) bf)
                | (go_at_call 94; refine Calls.mono (HSg.out _) ?_; rintro ee wf ⟨rfl, rfl⟩)
                | fail)
            go_wp2
            go_ret
            exact ⟨rfl, (HC3.out _ (by assumption)).1⟩
end Go.Proofs.YtjjjnpmppblchaaGreatDoor
