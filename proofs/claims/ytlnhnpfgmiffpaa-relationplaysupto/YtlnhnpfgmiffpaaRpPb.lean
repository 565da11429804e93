import Derived.Test.YtlnhnpfgmiffpaaRpPa
namespace Go.Proofs.Ytlnhnpfgmiffpaa
open Go.RowKit Go.Maps Go.Shelf
set_option linter.unusedVariables false
set_option linter.unusedSimpArgs false

section
variable {w w' : World} {pT pR : Value} {rows : List (List Int)} {n : Nat} {gn : Int} {E : Nat → Prop}
theorem ls_nil (w : World) (a : Option Addr) : BK.Ls w (.slice a 0 0) 0 [] := ⟨by simp, a, 0, rfl, Nat.le_refl _, by simp, fun hp => absurd hp (by simp)⟩
/-- Select of both sides tells the same -/
theorem pa_select (h : Pa w pT pR rows n gn E) (hlen : rows.length ≤ 100000000) (M : Nat) (hM : M < 4294967296) (x : List Int) (hx : RowOk x) : ∃ L : List Nat, L.length ≤ 100000000 ∧
    (∀ u, Below w.heap.size w u → Calls Try.prog 25 #[pT, .int .u32 (M : Int), rowV x] u fun e u' => (∃ v, e = .returned v ∧ BK.Ls u' v L.length (L.map intN)) ∧ Below u.heap.size u u') ∧
    ∀ u, Below w.heap.size w u → Calls Try.prog 26 #[pR, .int .u32 (M : Int), rowV x] u fun e u' => (∃ v, e = .returned v ∧ BK.Ls u' v L.length (L.map intN)) ∧ Below u.heap.size u u' := by
  cases h with
  | nil =>
    refine ⟨[], by simp, fun u hu => ?_, fun u hu => ?_⟩
    · refine (select_no .nil (M : Int) x hx.len).mono ?_
      rintro e u' ⟨rfl, hb⟩
      exact ⟨⟨_, rfl, ls_nil _ _⟩, hb⟩
    · refine (rselect_nil (M : Int) x u).mono ?_
      rintro e u' ⟨rfl, hb⟩
      exact ⟨⟨_, rfl, ls_nil _ _⟩, hb⟩
  | live rel rf na ap =>
    refine ⟨selF M n rows x rows.length, ?_, fun u hu => ?_, fun u hu => ?_⟩
    · rw [← sel_same M n hM na rel.ok hx.len]
      exact Nat.le_trans (selN_len _ _ _ _) hlen
    · refine (selectA n na (rel.keep hu) hlen (M : Int) x hx).mono ?_
      rintro e u' ⟨a, c, rfl, ho, hb⟩
      rw [sel_same M n hM na rel.ok hx.len] at ho ⊢
      exact ⟨⟨_, rfl, BK.ls_own ho⟩, hb⟩
    · refine (rselect_any (rf.keep hu) na hlen M hM x hx).mono ?_
      rintro e u' ⟨a, c, rfl, ho, hb⟩
      exact ⟨⟨_, rfl, BK.ls_own ho⟩, hb⟩
/-- At of both sides tells the same -/
theorem pa_at (h : Pa w pT pR rows n gn E) (hlen : rows.length ≤ 100000000) (i : Int) : ∃ (x : List Int) (er : Int), RowOk x ∧
    (∀ u, Below w.heap.size w u → Calls Try.prog 20 #[pT, .int .i64 i] u fun e u' => e = .returned (.tuple #[rowV x, .int .i64 er]) ∧ Below u.heap.size u u') ∧
    ∀ u, Below w.heap.size w u → Calls Try.prog 21 #[pR, .int .i64 i] u fun e u' => e = .returned (.tuple #[rowV x, .int .i64 er]) ∧ Below u.heap.size u u' := by
  cases h with
  | nil => exact ⟨zeroL, 2, zeroL_ok, fun u hu => at_no .nil i, fun u hu => rat_nil i u⟩
  | live rel rf na ap =>
    by_cases h0 : i < 0
    · exact ⟨zeroL, 1, zeroL_ok, fun u hu => at_low (rel.keep hu) i h0, fun u hu => rat_low (rf.keep hu) i h0⟩
    · by_cases h1 : (rows.length : Int) ≤ i
      · exact ⟨zeroL, 1, zeroL_ok, fun u hu => at_out (rel.keep hu) i h1, fun u hu => rat_out (rf.keep hu) i h1⟩
      · obtain ⟨k, rfl⟩ : ∃ k : Nat, i = (k : Int) := ⟨i.toNat, by omega⟩
        have hk : k < rows.length := by omega
        have hg : rows[k]? = some rows[k] := List.getElem?_eq_getElem hk
        exact ⟨rows[k], 0, rel.ok _ (List.getElem_mem hk), fun u hu => at_any (rel.keep hu) k _ hg (by omega), fun u hu => rat_any (rf.keep hu) k _ hg (by omega)⟩
/-- the program's Clone, and the reference's -/
inductive Ct (w : World) (B : Nat) : Bool → Value → List (List Int) → Nat → Prop
  | nil : Ct w B true (.pointer none) [] 0
  | live {t m n : Nat} {sv : Value} {rows : List (List Int)} (rel : Rel w B t m sv rows (n : Int) 0) (na : n ≤ 24) : Ct w B false (.pointer (some ⟨t, 0, none⟩)) rows n
inductive Cr (w : World) (B : Nat) : Bool → Value → List (List Int) → Nat → Prop
  | nil : Cr w B true (.pointer none) [] 0
  | live {p n : Nat} {sv : Value} {rows : List (List Int)} (rf : Rf w B p sv rows (n : Int) 0) : Cr w B false (.pointer (some ⟨p, 0, none⟩)) rows n
theorem Ct.keep {B : Nat} {b : Bool} {q : Value} (h : Ct w B b q rows n) (hb : Below w.heap.size w w') : Ct w' B b q rows n := by
  cases h with
  | nil => exact .nil
  | live rel na => exact .live (rel.keep hb) na
theorem Cr.keep {B : Nat} {b : Bool} {q : Value} (h : Cr w B b q rows n) (hb : Below w.heap.size w w') : Cr w' B b q rows n := by
  cases h with
  | nil => exact .nil
  | live rf => exact .live (rf.keep hb)
theorem Ct.eql {B : Nat} {b : Bool} {q : Value} (h : Ct w B b q rows n) (u : World) : (binOp .eql 24 q (.pointer none)).run Try.prog u = .ok (.bool b) u := by
  cases h with
  | nil => kernel_rfl
  | live rel na => kernel_rfl
theorem Cr.eql {B : Nat} {b : Bool} {q : Value} (h : Cr w B b q rows n) (u : World) : (binOp .eql 25 q (.pointer none)).run Try.prog u = .ok (.bool b) u := by
  cases h with
  | nil => kernel_rfl
  | live rf => kernel_rfl
theorem Ct.form {B : Nat} {b : Bool} {q : Value} (h : Ct w B b q rows n) : ∃ o, q = .pointer o := by cases h <;> exact ⟨_, rfl⟩
theorem Cr.form {B : Nat} {b : Bool} {q : Value} (h : Cr w B b q rows n) : ∃ o, q = .pointer o := by cases h <;> exact ⟨_, rfl⟩
/-- two that were made one behind the other -/
theorem pa_join {B B2 : Nat} {b : Bool} {qT qR : Value} (hT : Ct w B b qT rows n) (hb : Below w.heap.size w w') (hR : Cr w' B2 b qR rows n) (hB : B ≤ w.heap.size) (h2 : w.heap.size ≤ B2) : ∃ E, Pa w' qT qR rows n 0 E ∧ ∀ k, E k → B ≤ k := by
  cases hT with
  | nil =>
    cases hR
    exact ⟨_, .nil, fun k hk => hk.elim⟩
  | @live t m n sv rows rel na =>
    cases hR with
    | @live p n sv' rows rf =>
      have r2 := rel.keep hb
      have tl := World.rowIs.lt rel.rl
      have ml := rel.map.lt
      have lo := rel.lo
      have plo := rf.lo
      have gl : ∀ g, sv.ownBlock = some g → B ≤ g ∧ g < w.heap.size := fun g hg => rel.own.lt g hg
      have gr : ∀ g, sv'.ownBlock = some g → B2 ≤ g := fun g hg => (rf.own.lt g hg).1
      refine ⟨_, .live ⟨r2.rl, own_lowR r2.own (Nat.zero_le _), r2.map, r2.nd, r2.ok, ⟨Nat.zero_le _, Nat.zero_le _⟩, r2.ne⟩ ⟨rf.rl, own_lowR rf.own (Nat.zero_le _), rf.ok, Nat.zero_le _, rf.ne⟩ na ⟨by omega, by omega, fun g hg => ⟨by have := gl g hg; omega, fun e => by have := gl g hg; have := gr g e; omega⟩, fun g hg => by have := gr g hg; exact ⟨by omega, by omega⟩⟩, fun k hk => ?_⟩
      rcases hk with e | e | e | e | e
      · omega
      · omega
      · omega
      · exact (gl k e).1
      · have := gr k e; omega
theorem pa_clone (h : Pa w pT pR rows n gn E) (hlen : rows.length ≤ 100000000) : ∃ b : Bool,
    (∀ u, Below w.heap.size w u → Calls Try.prog 6 #[pT] u fun e u' => ∃ q, e = .returned q ∧ Ct u' u.heap.size b q rows n ∧ Below u.heap.size u u') ∧
    ∀ u, Below w.heap.size w u → Calls Try.prog 7 #[pR] u fun e u' => ∃ q, e = .returned q ∧ Cr u' u.heap.size b q rows n ∧ Below u.heap.size u u' := by
  cases h with
  | nil =>
    refine ⟨true, fun u hu => ?_, fun u hu => ?_⟩
    · refine (clone_no (w := u) .nil).mono ?_
      rintro e u' ⟨rfl, rfl⟩
      exact ⟨_, rfl, .nil, Below.refl _ _⟩
    · refine (rclone_nil u).mono ?_
      rintro e u' ⟨rfl, rfl⟩
      exact ⟨_, rfl, .nil, Below.refl _ _⟩
  | live rel rf na ap =>
    refine ⟨false, fun u hu => ?_, fun u hu => ?_⟩
    · refine (clone_yes (rel.keep hu) (by omega)).mono ?_
      rintro e u' ⟨t2, m2, sv2, rfl, hr, hb⟩
      exact ⟨_, rfl, .live hr na, hb⟩
    · refine (rclone_any (rf.keep hu) (by omega)).mono ?_
      rintro e u' ⟨q, sv', rfl, hr, hb⟩
      exact ⟨_, rfl, .live hr, hb⟩
end
end Go.Proofs.Ytlnhnpfgmiffpaa
