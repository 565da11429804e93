import Derived.Test.YtaeneiekjaoakaaGreatDoorPrintRB
namespace Go.Proofs.YtaeneiekjaoakaaGreatDoor
open Go.RowKit Go.Maps
set_option linter.unusedVariables false
set_option linter.unusedSimpArgs false
attribute [local go_sem ↓] Go.wp_at_zero Go.wp_at_succ

theorem rel6_any (p : Nat) (h2 : 1 ≤ p) (h7 : p ≤ 6) (w : World) : Calls Tryz.prog 48 #[.int .i8 (p : Int)] w fun r w' => r = .returned (.string (relS p)) ∧ w' = w := by
  rcases (by omega : p = 1 ∨ p = 2 ∨ p = 3 ∨ p = 4 ∨ p = 5 ∨ p = 6) with rfl | rfl | rfl | rfl | rfl | rfl
  all_goals
    go_enter Tryz.func48, Tryz.ntmps48
    go_wp2
    go_ret
    exact ⟨rfl, rfl⟩
theorem relS_txt (p : Nat) : relS p = txt (relT p) := rfl
set_option maxHeartbeats 3200000 in
theorem r6literal_any (d : Nat) (x : Lit4) (p : LP) (w : World) (h : LIs w d x p) (hok : litB x = true) :
    Calls Tryz.prog 26 #[x.val p] w fun r w' => r = .returned (.string (txt (litT x))) ∧ Below w.heap.size w w' := by
  rcases litB_form hok with ⟨e, ha⟩ | ⟨e, ha⟩ | ⟨e, r1, r6, el, er⟩
  · have hT : litT x = atomT x.pr x.ts := by unfold litT; rw [if_pos e]
    have ha1 := (atomT_len h.ts.wf ha).2
    have HA : Hid (∀ u, Below w.heap.size w u → Calls Tryz.prog 20 #[.agg #[.string x.pr, .slice p.a x.ts.length p.c]] u fun r w' => r = .returned (.string (txt (atomT x.pr x.ts))) ∧ Below u.heap.size u w') := fun u hu => r6atom_any x.pr _ x.ts u (atomB_all ha) (atomB_len ha) (by omega) (h.ts.below hu)
    rw [hT]
    obtain ⟨k, pr, ts, rel, l, r⟩ := x
    dsimp only at *
    subst e
    have BA := (Below.refl w.heap.size w).alloc (Nat.le_refl _) (.cells #[.int .i8 1, .string pr, .slice p.a ts.length p.c, .int .i8 rel, .int .i8 l.op, .string l.t.v, .int .i8 l.t.a.k, .int .i64 l.t.a.n, .string l.t.a.s, .slice p.la l.kids.length p.lc, .int .i8 r.op, .string r.t.v, .int .i8 r.t.a.k, .int .i64 r.t.a.n, .string r.t.a.s, .slice p.ra r.kids.length p.rc] 38)
    clear h hok ha hT
    generalize txt (atomT pr ts) = S at HA ⊢
    unfold Lit4.val
    dsimp only
    go_enter Tryz.func26, Tryz.ntmps26
    go_wp2_with fail
    refine Calls.mono (HA.out _ BA) ?_
    rintro ee w1 ⟨rfl, b1⟩
    go_wp2
    go_ret
    exact ⟨rfl, BA.trans (b1.mono BA.size)⟩
  · have hT : litT x = [110, 111, 116, 32] ++ atomT x.pr x.ts := by unfold litT; rw [if_neg (by omega), if_pos e]
    have ha1 := (atomT_len h.ts.wf ha).2
    have HA : Hid (∀ u, Below w.heap.size w u → Calls Tryz.prog 20 #[.agg #[.string x.pr, .slice p.a x.ts.length p.c]] u fun r w' => r = .returned (.string (txt (atomT x.pr x.ts))) ∧ Below u.heap.size u w') := fun u hu => r6atom_any x.pr _ x.ts u (atomB_all ha) (atomB_len ha) (by omega) (h.ts.below hu)
    rw [hT]
    obtain ⟨k, pr, ts, rel, l, r⟩ := x
    dsimp only at *
    subst e
    have BA := (Below.refl w.heap.size w).alloc (Nat.le_refl _) (.cells #[.int .i8 2, .string pr, .slice p.a ts.length p.c, .int .i8 rel, .int .i8 l.op, .string l.t.v, .int .i8 l.t.a.k, .int .i64 l.t.a.n, .string l.t.a.s, .slice p.la l.kids.length p.lc, .int .i8 r.op, .string r.t.v, .int .i8 r.t.a.k, .int .i64 r.t.a.n, .string r.t.a.s, .slice p.ra r.kids.length p.rc] 38)
    clear h hok ha hT
    have hadd : (⟨#[110, 111, 116, 32]⟩ : ByteArray) ++ txt (atomT pr ts) = txt ([110, 111, 116, 32] ++ atomT pr ts) := by rw [show (⟨#[110, 111, 116, 32]⟩ : ByteArray) = txt [110, 111, 116, 32] from rfl, txt_app]
    have hs : (txt (atomT pr ts)).size ≤ 30000 := by rw [txt_size]; exact ha1
    generalize txt ([110, 111, 116, 32] ++ atomT pr ts) = S2 at hadd ⊢
    generalize txt (atomT pr ts) = S at HA hadd hs
    unfold Lit4.val
    dsimp only
    go_enter Tryz.func26, Tryz.ntmps26
    go_wp2_with fail
    refine Calls.mono (HA.out _ BA) ?_
    rintro ee w1 ⟨rfl, b1⟩
    go_wp2
    go_ret
    exact ⟨rfl, BA.trans (b1.mono BA.size)⟩
  · have hT : litT x = textE 8 x.l ++ (([32] ++ relT x.rel.toNat ++ [32]) ++ textE 8 x.r) := by unfold litT; rw [if_neg (by omega), if_neg (by omega)]
    have hl1 := textE_len 8 d x.l p.la p.lc w h.l el
    have hl2 := textE_len 8 d x.r p.ra p.rc w h.r er
    have HEl : Hid (∀ u, Below w.heap.size w u → Calls Tryz.prog 47 #[x.l.val p.la p.lc] u fun r w' => r = .returned (.string (txt (textE 8 x.l))) ∧ Below u.heap.size u w') := fun u hu => r6expr_any 8 d x.l p.la p.lc u (h.l.below hu) el (by omega)
    have HEr : Hid (∀ u, Below w.heap.size w u → Calls Tryz.prog 47 #[x.r.val p.ra p.rc] u fun r w' => r = .returned (.string (txt (textE 8 x.r))) ∧ Below u.heap.size u w') := fun u hu => r6expr_any 8 d x.r p.ra p.rc u (h.r.below hu) er (by omega)
    rw [hT]
    obtain ⟨k, pr, ts, rel, l, r⟩ := x
    dsimp only at *
    subst e
    obtain ⟨n, rfl⟩ : ∃ n : Nat, rel = n := ⟨rel.toNat, by omega⟩
    rw [Int.toNat_natCast]
    have HR : Hid (∀ u, Calls Tryz.prog 48 #[.int .i8 (n : Int)] u fun r w' => r = .returned (.string (relS n)) ∧ w' = u) := fun u => rel6_any n (by omega) (by omega) u
    clear h hok hT el er r1 r6
    generalize textE 8 l = kt at HEl hl1 ⊢
    generalize textE 8 r = kt' at HEr hl2 ⊢
    obtain ⟨lo, lt, lk⟩ := l
    obtain ⟨ro, rt, rk⟩ := r
    unfold Lit4.val E.val at *
    simp only [op_mk, t_mk, kids_mk] at HEl HEr ⊢
    have BA := (Below.refl w.heap.size w).alloc (Nat.le_refl _) (.cells #[.int .i8 3, .string pr, .slice p.a ts.length p.c, .int .i8 (n : Int), .int .i8 lo, .string lt.v, .int .i8 lt.a.k, .int .i64 lt.a.n, .string lt.a.s, .slice p.la lk.length p.lc, .int .i8 ro, .string rt.v, .int .i8 rt.a.k, .int .i64 rt.a.n, .string rt.a.s, .slice p.ra rk.length p.rc] 38)
    have hrl := relT_len n
    have e1 : txt kt ++ (⟨#[32]⟩ : ByteArray) = txt (kt ++ [32]) := by rw [txt_one, txt_app]
    have e2 : txt (kt ++ [32]) ++ relS n = txt (kt ++ [32] ++ relT n) := by rw [relS_txt, txt_app]
    have e3 : txt (kt ++ [32] ++ relT n) ++ (⟨#[32]⟩ : ByteArray) = txt (kt ++ [32] ++ relT n ++ [32]) := by rw [txt_one, txt_app]
    have e4 : txt (kt ++ [32] ++ relT n ++ [32]) ++ txt kt' = txt (kt ++ (([32] ++ relT n ++ [32]) ++ kt')) := by rw [txt_app]; simp [List.append_assoc]
    have s1 : ¬ 9223372036854775807 < (txt kt).size + 1 := by rw [txt_size]; omega
    have s2 : ¬ 9223372036854775807 < (txt (kt ++ [32])).size + (relS n).size := by rw [relS_txt, txt_size, txt_size, List.length_append]; simp only [List.length_cons, List.length_nil]; omega
    have s3 : ¬ 9223372036854775807 < (txt (kt ++ [32] ++ relT n)).size + 1 := by rw [txt_size, List.length_append, List.length_append]; simp only [List.length_cons, List.length_nil]; omega
    have s4 : ¬ 9223372036854775807 < (txt (kt ++ [32] ++ relT n ++ [32])).size + (txt kt').size := by rw [txt_size, txt_size, List.length_append, List.length_append, List.length_append]; simp only [List.length_cons, List.length_nil]; omega
    generalize txt (kt ++ (([32] ++ relT n ++ [32]) ++ kt')) = TX at e4 ⊢
    generalize txt (kt ++ [32] ++ relT n ++ [32]) = A3 at e3 e4 s4
    generalize txt (kt ++ [32] ++ relT n) = A2 at e2 e3 s3
    generalize txt (kt ++ [32]) = A1 at e1 e2 s2
    generalize txt kt = S at e1 s1 HEl
    generalize txt kt' = S' at e4 s4 HEr
    generalize relS n = O at e2 s2 HR
    have HC : Hid (∀ u, Below (w.alloc (.cells #[.int .i8 3, .string pr, .slice p.a ts.length p.c, .int .i8 (n : Int), .int .i8 lo, .string lt.v, .int .i8 lt.a.k, .int .i64 lt.a.n, .string lt.a.s, .slice p.la lk.length p.lc, .int .i8 ro, .string rt.v, .int .i8 rt.a.k, .int .i64 rt.a.n, .string rt.a.s, .slice p.ra rk.length p.rc] 38)).heap.size (w.alloc (.cells #[.int .i8 3, .string pr, .slice p.a ts.length p.c, .int .i8 (n : Int), .int .i8 lo, .string lt.v, .int .i8 lt.a.k, .int .i64 lt.a.n, .string lt.a.s, .slice p.la lk.length p.lc, .int .i8 ro, .string rt.v, .int .i8 rt.a.k, .int .i64 rt.a.n, .string rt.a.s, .slice p.ra rk.length p.rc] 38)) u → Below w.heap.size w u ∧ u.cell? ⟨w.heap.size, 3, none⟩ = some (.int .i8 (n : Int)) ∧ u.cell? ⟨w.heap.size, 4, none⟩ = some (.int .i8 lo) ∧ u.cell? ⟨w.heap.size, 5, none⟩ = some (.string lt.v) ∧ u.cell? ⟨w.heap.size, 6, none⟩ = some (.int .i8 lt.a.k) ∧ u.cell? ⟨w.heap.size, 7, none⟩ = some (.int .i64 lt.a.n) ∧ u.cell? ⟨w.heap.size, 8, none⟩ = some (.string lt.a.s) ∧ u.cell? ⟨w.heap.size, 9, none⟩ = some (.slice p.la lk.length p.lc) ∧ u.cell? ⟨w.heap.size, 10, none⟩ = some (.int .i8 ro) ∧ u.cell? ⟨w.heap.size, 11, none⟩ = some (.string rt.v) ∧ u.cell? ⟨w.heap.size, 12, none⟩ = some (.int .i8 rt.a.k) ∧ u.cell? ⟨w.heap.size, 13, none⟩ = some (.int .i64 rt.a.n) ∧ u.cell? ⟨w.heap.size, 14, none⟩ = some (.string rt.a.s) ∧ u.cell? ⟨w.heap.size, 15, none⟩ = some (.slice p.ra rk.length p.rc)) := fun u hu => by
      have q3 : u.cell? ⟨w.heap.size, 3, none⟩ = some (.int .i8 (n : Int)) := by rw [hu.cell (p := ⟨w.heap.size, 3, none⟩) (by simp)]; go_simp
      have q4 : u.cell? ⟨w.heap.size, 4, none⟩ = some (.int .i8 lo) := by rw [hu.cell (p := ⟨w.heap.size, 4, none⟩) (by simp)]; go_simp
      have q5 : u.cell? ⟨w.heap.size, 5, none⟩ = some (.string lt.v) := by rw [hu.cell (p := ⟨w.heap.size, 5, none⟩) (by simp)]; go_simp
      have q6 : u.cell? ⟨w.heap.size, 6, none⟩ = some (.int .i8 lt.a.k) := by rw [hu.cell (p := ⟨w.heap.size, 6, none⟩) (by simp)]; go_simp
      have q7 : u.cell? ⟨w.heap.size, 7, none⟩ = some (.int .i64 lt.a.n) := by rw [hu.cell (p := ⟨w.heap.size, 7, none⟩) (by simp)]; go_simp
      have q8 : u.cell? ⟨w.heap.size, 8, none⟩ = some (.string lt.a.s) := by rw [hu.cell (p := ⟨w.heap.size, 8, none⟩) (by simp)]; go_simp
      have q9 : u.cell? ⟨w.heap.size, 9, none⟩ = some (.slice p.la lk.length p.lc) := by rw [hu.cell (p := ⟨w.heap.size, 9, none⟩) (by simp)]; go_simp
      have q10 : u.cell? ⟨w.heap.size, 10, none⟩ = some (.int .i8 ro) := by rw [hu.cell (p := ⟨w.heap.size, 10, none⟩) (by simp)]; go_simp
      have q11 : u.cell? ⟨w.heap.size, 11, none⟩ = some (.string rt.v) := by rw [hu.cell (p := ⟨w.heap.size, 11, none⟩) (by simp)]; go_simp
      have q12 : u.cell? ⟨w.heap.size, 12, none⟩ = some (.int .i8 rt.a.k) := by rw [hu.cell (p := ⟨w.heap.size, 12, none⟩) (by simp)]; go_simp
      have q13 : u.cell? ⟨w.heap.size, 13, none⟩ = some (.int .i64 rt.a.n) := by rw [hu.cell (p := ⟨w.heap.size, 13, none⟩) (by simp)]; go_simp
      have q14 : u.cell? ⟨w.heap.size, 14, none⟩ = some (.string rt.a.s) := by rw [hu.cell (p := ⟨w.heap.size, 14, none⟩) (by simp)]; go_simp
      have q15 : u.cell? ⟨w.heap.size, 15, none⟩ = some (.slice p.ra rk.length p.rc) := by rw [hu.cell (p := ⟨w.heap.size, 15, none⟩) (by simp)]; go_simp
      exact ⟨BA.trans (hu.mono BA.size), q3, q4, q5, q6, q7, q8, q9, q10, q11, q12, q13, q14, q15⟩
    clear BA hl1 hl2 hrl
    go_enter Tryz.func26, Tryz.ntmps26
    go_upto_region 6 with fail
    generalize hWW : w.alloc (.cells #[.int .i8 3, .string pr, .slice p.a ts.length p.c, .int .i8 (n : Int), .int .i8 lo, .string lt.v, .int .i8 lt.a.k, .int .i64 lt.a.n, .string lt.a.s, .slice p.la lk.length p.lc, .int .i8 ro, .string rt.v, .int .i8 rt.a.k, .int .i64 rt.a.n, .string rt.a.s, .slice p.ra rk.length p.rc] 38) = W at HC ⊢
    clear hWW
    have hB0 : Below W.heap.size W W.drew := (Below.refl _ _).drew
    have hS0 := HC.out _ (Below.refl _ _)
    go_region_held3 (fun u => (Below W.heap.size W u) ∧ u.cell? ⟨w.heap.size, 3, none⟩ = some (.int .i8 (n : Int)) ∧ u.cell? ⟨w.heap.size, 4, none⟩ = some (.int .i8 lo) ∧ u.cell? ⟨w.heap.size, 5, none⟩ = some (.string lt.v) ∧ u.cell? ⟨w.heap.size, 6, none⟩ = some (.int .i8 lt.a.k) ∧ u.cell? ⟨w.heap.size, 7, none⟩ = some (.int .i64 lt.a.n) ∧ u.cell? ⟨w.heap.size, 8, none⟩ = some (.string lt.a.s) ∧ u.cell? ⟨w.heap.size, 9, none⟩ = some (.slice p.la lk.length p.lc) ∧ u.cell? ⟨w.heap.size, 10, none⟩ = some (.int .i8 ro) ∧ u.cell? ⟨w.heap.size, 11, none⟩ = some (.string rt.v) ∧ u.cell? ⟨w.heap.size, 12, none⟩ = some (.int .i8 rt.a.k) ∧ u.cell? ⟨w.heap.size, 13, none⟩ = some (.int .i64 rt.a.n) ∧ u.cell? ⟨w.heap.size, 14, none⟩ = some (.string rt.a.s) ∧ u.cell? ⟨w.heap.size, 15, none⟩ = some (.slice p.ra rk.length p.rc))
      (first
        | assumption
        | exact ⟨hB0, (HC.out _ hB0).2⟩
        | exact ⟨(by assumption), (HC.out _ (by assumption)).2⟩)
      (first
        | (go_at_call_of 47 (Value.string lt.v); refine Calls.mono (HEl.out _ (HC.out _ (by assumption)).1) ?_; rintro ee wf ⟨rfl, bf⟩; have bf' := below_next (wc := W) (by assumption) bf)
        | (go_at_call_of 47 (Value.string rt.v); refine Calls.mono (HEr.out _ (HC.out _ (by assumption)).1) ?_; rintro ee wf ⟨rfl, bf⟩; have bf' := below_next (wc := W) (by assumption) bf)
        | (go_at_call 48; refine Calls.mono (HR.out _) ?_; rintro ee wf ⟨rfl, rfl⟩)
        | fail)
    go_wp2
    go_ret
    exact ⟨rfl, (HC.out _ (by assumption)).1⟩
set_option maxHeartbeats 3200000 in
theorem r6Literal_any (d : Nat) (x : Lit4) (p : LP) (w : World) (h : LIs w d x p) :
    Calls Tryz.prog 11 #[x.val p] w fun r w' => r = .returned (toldV (litB x) (litT x)) ∧ Below w.heap.size w w' := by
  have BA := (Below.refl w.heap.size w).alloc (Nat.le_refl _) (.cells #[.int .i8 x.k, .string x.pr, .slice p.a x.ts.length p.c, .int .i8 x.rel, .int .i8 x.l.op, .string x.l.t.v, .int .i8 x.l.t.a.k, .int .i64 x.l.t.a.n, .string x.l.t.a.s, .slice p.la x.l.kids.length p.lc, .int .i8 x.r.op, .string x.r.t.v, .int .i8 x.r.t.a.k, .int .i64 x.r.t.a.n, .string x.r.t.a.s, .slice p.ra x.r.kids.length p.rc] 38)
  have HX : Hid (LIs w d x p) := h
  have HCk : Hid _ := rcheckLiteral_any d x p _ (h.below BA)
  have HWr : Hid (∀ u, litB x = true → Below w.heap.size w u → Calls Tryz.prog 26 #[x.val p] u fun r w' => r = .returned (.string (txt (litT x))) ∧ Below u.heap.size u w') := fun u hok hu => r6literal_any d x p u (h.below hu) hok
  clear h
  unfold Lit4.val at *
  go_enter Tryz.func11, Tryz.ntmps11
  go_wp2_with fail
  refine Calls.mono HCk.out ?_
  rintro ee w1 ⟨rfl, b1⟩
  have B1 : Hid (Below w.heap.size w w1) := BA.trans (b1.mono BA.size)
  have y0 : w1.cell? ⟨w.heap.size, 0, none⟩ = some (.int .i8 x.k) := by rw [b1.cell (p := ⟨w.heap.size, 0, none⟩) (by simp)]; go_simp
  have y1 : w1.cell? ⟨w.heap.size, 1, none⟩ = some (.string x.pr) := by rw [b1.cell (p := ⟨w.heap.size, 1, none⟩) (by simp)]; go_simp
  have y2 : w1.cell? ⟨w.heap.size, 2, none⟩ = some (.slice p.a x.ts.length p.c) := by rw [b1.cell (p := ⟨w.heap.size, 2, none⟩) (by simp)]; go_simp
  have y3 : w1.cell? ⟨w.heap.size, 3, none⟩ = some (.int .i8 x.rel) := by rw [b1.cell (p := ⟨w.heap.size, 3, none⟩) (by simp)]; go_simp
  have y4 : w1.cell? ⟨w.heap.size, 4, none⟩ = some (.int .i8 x.l.op) := by rw [b1.cell (p := ⟨w.heap.size, 4, none⟩) (by simp)]; go_simp
  have y5 : w1.cell? ⟨w.heap.size, 5, none⟩ = some (.string x.l.t.v) := by rw [b1.cell (p := ⟨w.heap.size, 5, none⟩) (by simp)]; go_simp
  have y6 : w1.cell? ⟨w.heap.size, 6, none⟩ = some (.int .i8 x.l.t.a.k) := by rw [b1.cell (p := ⟨w.heap.size, 6, none⟩) (by simp)]; go_simp
  have y7 : w1.cell? ⟨w.heap.size, 7, none⟩ = some (.int .i64 x.l.t.a.n) := by rw [b1.cell (p := ⟨w.heap.size, 7, none⟩) (by simp)]; go_simp
  have y8 : w1.cell? ⟨w.heap.size, 8, none⟩ = some (.string x.l.t.a.s) := by rw [b1.cell (p := ⟨w.heap.size, 8, none⟩) (by simp)]; go_simp
  have y9 : w1.cell? ⟨w.heap.size, 9, none⟩ = some (.slice p.la x.l.kids.length p.lc) := by rw [b1.cell (p := ⟨w.heap.size, 9, none⟩) (by simp)]; go_simp
  have y10 : w1.cell? ⟨w.heap.size, 10, none⟩ = some (.int .i8 x.r.op) := by rw [b1.cell (p := ⟨w.heap.size, 10, none⟩) (by simp)]; go_simp
  have y11 : w1.cell? ⟨w.heap.size, 11, none⟩ = some (.string x.r.t.v) := by rw [b1.cell (p := ⟨w.heap.size, 11, none⟩) (by simp)]; go_simp
  have y12 : w1.cell? ⟨w.heap.size, 12, none⟩ = some (.int .i8 x.r.t.a.k) := by rw [b1.cell (p := ⟨w.heap.size, 12, none⟩) (by simp)]; go_simp
  have y13 : w1.cell? ⟨w.heap.size, 13, none⟩ = some (.int .i64 x.r.t.a.n) := by rw [b1.cell (p := ⟨w.heap.size, 13, none⟩) (by simp)]; go_simp
  have y14 : w1.cell? ⟨w.heap.size, 14, none⟩ = some (.string x.r.t.a.s) := by rw [b1.cell (p := ⟨w.heap.size, 14, none⟩) (by simp)]; go_simp
  have y15 : w1.cell? ⟨w.heap.size, 15, none⟩ = some (.slice p.ra x.r.kids.length p.rc) := by rw [b1.cell (p := ⟨w.heap.size, 15, none⟩) (by simp)]; go_simp
  clear b1 BA HCk
  cases hok : litB x
  · unfold errB
    simp only [Bool.false_eq_true, if_false]
    go_wp2
    go_ret2
    exact ⟨by first | rfl | (rw [hok]; rfl), B1.out⟩
  · unfold errB
    simp only [if_true]
    go_wp2_with fail
    refine (HWr.out _ hok B1.out).mono ?_
    rintro ee w2 ⟨rfl, b2⟩
    obtain ⟨S, hS⟩ : ∃ S, txt (litT x) = S := ⟨_, rfl⟩
    rw [hS]
    have HSS : Hid (⟨(litT x).toArray⟩ = S) := hS
    clear hS
    go_wp2
    go_ret2
    exact ⟨by first | (rw [← HSS.out]; rfl) | (rw [hok, ← HSS.out]; rfl), B1.out.trans (b2.mono B1.out.size)⟩
end Go.Proofs.YtaeneiekjaoakaaGreatDoor
