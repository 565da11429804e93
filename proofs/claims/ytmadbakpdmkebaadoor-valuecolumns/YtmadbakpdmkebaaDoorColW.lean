import Derived.Test.YtmadbakpdmkebaaDoorColA
import Derived.Test.YtmadbakpdmkebaaDoorAlive
import Derived.Test.YtmadbakpdmkebaaDoorBeyond
import Derived.BigQuiet
import Derived.Deep.QuietTactic
import Derived.Deep.DeepCutAuto
import Derived.Deep.RegionLaw
namespace Go.Proofs.YtmadbakpdmkebaaDoor
open Go.RowKit
set_option linter.unusedVariables false
set_option linter.unusedSimpArgs false

theorem col_keep {w v v' : World} {x y z : Fc} (hb : Below v.heap.size v v') (h : (w.heap.size + 2 < v.heap.size ∧ Below w.heap.size w v ∧ v.cell? ⟨w.heap.size, 0, none⟩ = some (.string x.p) ∧ v.cell? ⟨w.heap.size, 1, none⟩ = some (.slice x.a x.n x.c) ∧ v.cell? ⟨w.heap.size + 1, 0, none⟩ = some (.string y.p) ∧ v.cell? ⟨w.heap.size + 1, 1, none⟩ = some (.slice y.a y.n y.c) ∧ v.cell? ⟨w.heap.size + 2, 0, none⟩ = some (.string z.p) ∧ v.cell? ⟨w.heap.size + 2, 1, none⟩ = some (.slice z.a z.n z.c))) : (w.heap.size + 2 < v'.heap.size ∧ Below w.heap.size w v' ∧ v'.cell? ⟨w.heap.size, 0, none⟩ = some (.string x.p) ∧ v'.cell? ⟨w.heap.size, 1, none⟩ = some (.slice x.a x.n x.c) ∧ v'.cell? ⟨w.heap.size + 1, 0, none⟩ = some (.string y.p) ∧ v'.cell? ⟨w.heap.size + 1, 1, none⟩ = some (.slice y.a y.n y.c) ∧ v'.cell? ⟨w.heap.size + 2, 0, none⟩ = some (.string z.p) ∧ v'.cell? ⟨w.heap.size + 2, 1, none⟩ = some (.slice z.a z.n z.c)) := by
  obtain ⟨hz, bel, a0, a1, b0, b1, c0, c1⟩ := h
  have hs := hb.size
  refine ⟨by omega, bel.trans (hb.mono (by omega)), ?_, ?_, ?_, ?_, ?_, ?_⟩
  · rw [hb.cell (by show w.heap.size < _; omega)]; exact a0
  · rw [hb.cell (by show w.heap.size < _; omega)]; exact a1
  · rw [hb.cell (by show w.heap.size + 1 < _; omega)]; exact b0
  · rw [hb.cell (by show w.heap.size + 1 < _; omega)]; exact b1
  · rw [hb.cell (by show w.heap.size + 2 < _; omega)]; exact c0
  · rw [hb.cell (by show w.heap.size + 2 < _; omega)]; exact c1
theorem below_drewN {B : Nat} {w v : World} {n : Nat} (h : Below B w v) : Below B w (v.drewN n) := ⟨h.os, h.tape, h.output, h.size, h.block⟩
theorem col_bel {w v : World} {x y z : Fc} (h : (w.heap.size + 2 < v.heap.size ∧ Below w.heap.size w v ∧ v.cell? ⟨w.heap.size, 0, none⟩ = some (.string x.p) ∧ v.cell? ⟨w.heap.size, 1, none⟩ = some (.slice x.a x.n x.c) ∧ v.cell? ⟨w.heap.size + 1, 0, none⟩ = some (.string y.p) ∧ v.cell? ⟨w.heap.size + 1, 1, none⟩ = some (.slice y.a y.n y.c) ∧ v.cell? ⟨w.heap.size + 2, 0, none⟩ = some (.string z.p) ∧ v.cell? ⟨w.heap.size + 2, 1, none⟩ = some (.slice z.a z.n z.c))) : Below w.heap.size w v := h.2.1
theorem col_drew {w v : World} {x y z : Fc} (h : (w.heap.size + 2 < v.heap.size ∧ Below w.heap.size w v ∧ v.cell? ⟨w.heap.size, 0, none⟩ = some (.string x.p) ∧ v.cell? ⟨w.heap.size, 1, none⟩ = some (.slice x.a x.n x.c) ∧ v.cell? ⟨w.heap.size + 1, 0, none⟩ = some (.string y.p) ∧ v.cell? ⟨w.heap.size + 1, 1, none⟩ = some (.slice y.a y.n y.c) ∧ v.cell? ⟨w.heap.size + 2, 0, none⟩ = some (.string z.p) ∧ v.cell? ⟨w.heap.size + 2, 1, none⟩ = some (.slice z.a z.n z.c))) : (w.heap.size + 2 < v.drew.heap.size ∧ Below w.heap.size w v.drew ∧ v.drew.cell? ⟨w.heap.size, 0, none⟩ = some (.string x.p) ∧ v.drew.cell? ⟨w.heap.size, 1, none⟩ = some (.slice x.a x.n x.c) ∧ v.drew.cell? ⟨w.heap.size + 1, 0, none⟩ = some (.string y.p) ∧ v.drew.cell? ⟨w.heap.size + 1, 1, none⟩ = some (.slice y.a y.n y.c) ∧ v.drew.cell? ⟨w.heap.size + 2, 0, none⟩ = some (.string z.p) ∧ v.drew.cell? ⟨w.heap.size + 2, 1, none⟩ = some (.slice z.a z.n z.c)) := ⟨h.1, h.2.1.drew, h.2.2⟩

/-- the three facts, and the value v in a block of its own -/
structure CV (w u : World) (x y z : Fc) (B : Nat) (k m : Int) (s : ByteArray) : Prop where
  base : (w.heap.size + 2 < u.heap.size ∧ Below w.heap.size w u ∧ u.cell? ⟨w.heap.size, 0, none⟩ = some (.string x.p) ∧ u.cell? ⟨w.heap.size, 1, none⟩ = some (.slice x.a x.n x.c) ∧ u.cell? ⟨w.heap.size + 1, 0, none⟩ = some (.string y.p) ∧ u.cell? ⟨w.heap.size + 1, 1, none⟩ = some (.slice y.a y.n y.c) ∧ u.cell? ⟨w.heap.size + 2, 0, none⟩ = some (.string z.p) ∧ u.cell? ⟨w.heap.size + 2, 1, none⟩ = some (.slice z.a z.n z.c))
  lt : B < u.heap.size
  ge : w.heap.size + 2 < B
  c0 : u.cell? ⟨B, 0, none⟩ = some (.int .i8 k)
  c1 : u.cell? ⟨B, 1, none⟩ = some (.int .i64 m)
  c2 : u.cell? ⟨B, 2, none⟩ = some (.string s)
  sz : s.size ≤ maxLen
theorem CV.keep {w u u' : World} {x y z : Fc} {B : Nat} {k m : Int} {s : ByteArray} (h : CV w u x y z B k m s) (hb : Below u.heap.size u u') : CV w u' x y z B k m s :=
  ⟨col_keep hb h.base, Nat.lt_of_lt_of_le h.lt hb.size, h.ge, by rw [hb.cell h.lt]; exact h.c0, by rw [hb.cell h.lt]; exact h.c1, by rw [hb.cell h.lt]; exact h.c2, h.sz⟩
theorem CV.drew {w u : World} {x y z : Fc} {B : Nat} {k m : Int} {s : ByteArray} (h : CV w u x y z B k m s) : CV w u.drew x y z B k m s := h.keep (Below.refl _ _).drew
theorem CV.drewN {w u : World} {x y z : Fc} {B : Nat} {k m : Int} {s : ByteArray} {n : Nat} (h : CV w u x y z B k m s) : CV w (u.drewN n) x y z B k m s := h.keep (below_drewN (Below.refl _ _))
theorem CV.bel {w u : World} {x y z : Fc} {B : Nat} {k m : Int} {s : ByteArray} (h : CV w u x y z B k m s) : Below w.heap.size w u := h.base.2.1

theorem cv_keep {w u u' : World} {x y z : Fc} {B : Nat} {k m : Int} {s : ByteArray} (hb : Below u.heap.size u u') (h : CV w u x y z B k m s ∧ u.cell? ⟨B, 0, none⟩ = some (.int .i8 k) ∧ u.cell? ⟨B, 1, none⟩ = some (.int .i64 m) ∧ u.cell? ⟨B, 2, none⟩ = some (.string s)) :
    CV w u' x y z B k m s ∧ u'.cell? ⟨B, 0, none⟩ = some (.int .i8 k) ∧ u'.cell? ⟨B, 1, none⟩ = some (.int .i64 m) ∧ u'.cell? ⟨B, 2, none⟩ = some (.string s) :=
  have hk := h.1.keep hb
  ⟨hk, hk.c0, hk.c1, hk.c2⟩

theorem ct_held {w u : World} {x y z : Fc} {B : Nat} {k m : Int} {s : ByteArray} (h : CV w u x y z B k m s) (p q : Fc) (hp : p.lies w) (hq : q.lies w) :
    Calls Tryd.prog 10 #[.slice p.a p.n p.c, .slice q.a q.n q.c] u fun e u' => e = .returned (.int .i64 (tc p q)) ∧ CV w u' x y z B k m s :=
  (vct p q u (hp.below h.bel) (hq.below h.bel)).mono fun e u' ⟨he, hb⟩ => ⟨he, h.keep hb⟩
theorem cf_held {w u : World} {x y z : Fc} {B : Nat} {k m : Int} {s : ByteArray} (h : CV w u x y z B k m s) (p q : Fc) (hp : p.lies w) (hq : q.lies w) :
    Calls Tryd.prog 7 #[.agg #[.string p.p, .slice p.a p.n p.c], .agg #[.string q.p, .slice q.a q.n q.c]] u fun e u' => e = .returned (.int .i64 (fc p q)) ∧ CV w u' x y z B k m s :=
  (vcf p q u (hp.below h.bel) (hq.below h.bel)).mono fun e u' ⟨he, hb⟩ => ⟨he, h.keep hb⟩
theorem sv_held {w u : World} {x y z : Fc} {B : Nat} {k m : Int} {s : ByteArray} (h : CV w u x y z B k m s) (p q : Fc) (hp : p.lies w) (hq : q.lies w) :
    Calls Tryd.prog 11 #[.slice p.a p.n p.c, .slice q.a q.n q.c] u fun e u' => e = .returned (.bool (sv p q)) ∧ CV w u' x y z B k m s :=
  (svs p q u (hp.below h.bel) (hq.below h.bel)).mono fun e u' ⟨he, hb⟩ => ⟨he, h.keep hb⟩
theorem fc_eq {x y : Fc} (h : x.p.toList = y.p.toList) : fc x y = tc x y := cmpF_eq (tc x y) h
theorem fc_lt {x y : Fc} (h : Op.bytesLess x.p.toList y.p.toList = true) : fc x y = -1 := cmpF_lt (tc x y) h
theorem less_ne {a b : ByteArray} (h : Op.bytesLess a.toList b.toList = true) : ¬ a.toList = b.toList := by
  intro e
  have h1 := compareBytes_less _ _ h
  rw [e, compareBytes_self] at h1
  cases h1

theorem lst_size {w : World} {v : Value} {n : Nat} {K N : Nat → Int} {S : Nat → ByteArray} (h : Lst w v n K N S) : ∀ i, i < n → (S i).size ≤ maxLen := by
  rcases h.2 with ⟨_, _, _, rfl⟩ | ⟨_, _, _, _, _, _, hc⟩
  · intro i hi; omega
  · exact hc.size
theorem onto_size {n m : Nat} {S S' : Nat → ByteArray} (h : ∀ i, i < n → (S i).size ≤ maxLen) (h' : ∀ i, i < m → (S' i).size ≤ maxLen) : ∀ i, i < n + m → (onto n S S' i).size ≤ maxLen := by
  intro i hi
  unfold onto
  split
  · exact h i (by assumption)
  · exact h' _ (by omega)
theorem own_onto {w : World} {b : Nat} {v : Value} {n m : Nat} {K N : Nat → Int} {S : Nat → ByteArray} {K' N' : Nat → Int} {S' : Nat → ByteArray} (h : w.ownsRow b 34 3 v (n + m) (flat (onto n K K') (onto n N N') (onto n S S') (n + m))) (hn : n ≤ 2097152) (hm : m ≤ 2097152)
    (hs : ∀ i, i < n → (S i).size ≤ maxLen) (hs' : ∀ i, i < m → (S' i).size ≤ maxLen) : ∃ a c, v = .slice a (n + m) c ∧ Lst w (.slice a (n + m) c) (n + m) (onto n K K') (onto n N N') (onto n S S') :=
  own_lies h (by unfold maxLen; omega) (onto_size hs hs')

theorem tc_long (x : Fc) (k m : Int) (s : ByteArray) (a : Option Addr) (c : Nat) : tc x ⟨x.p, a, x.n + 1, c, onto x.n x.K fun _ => k, onto x.n x.N fun _ => m, onto x.n x.S fun _ => s⟩ = -1 := by
  have h := TT_skip x.n 0 1 (fun i => cmpV (x.K i) (x.N i) (x.S i) (onto x.n x.K (fun _ => k) i) (onto x.n x.N (fun _ => m) i) (onto x.n x.S (fun _ => s) i)) (fun i hi => by
    simp only [onto_lt hi]; exact cmpV_s0 _ _ rfl)
  exact h
theorem tc_both (x y z : Fc) (a a' : Option Addr) (c c' : Nat) : tc ⟨x.p, a, x.n + y.n, c, onto x.n x.K y.K, onto x.n x.N y.N, onto x.n x.S y.S⟩ ⟨x.p, a', x.n + z.n, c', onto x.n x.K z.K, onto x.n x.N z.N, onto x.n x.S z.S⟩ = tc y z := by
  have h := TT_skip x.n y.n z.n (fun i => cmpV (onto x.n x.K y.K i) (onto x.n x.N y.N i) (onto x.n x.S y.S i) (onto x.n x.K z.K i) (onto x.n x.N z.N i) (onto x.n x.S z.S i)) (fun i hi => by
    simp only [onto_lt hi]; exact cmpV_s0 _ _ rfl)
  simp only [onto_ge] at h
  exact h
theorem tc_front (x y : Fc) (k m : Int) (s : ByteArray) (k' m' : Int) (s' : ByteArray) (a a' : Option Addr) (c c' : Nat) (hne : ¬ cmpV k m s k' m' s' = 0) :
    tc ⟨x.p, a, 1 + x.n, c, onto 1 (fun _ => k) x.K, onto 1 (fun _ => m) x.N, onto 1 (fun _ => s) x.S⟩ ⟨y.p, a', 1 + y.n, c', onto 1 (fun _ => k') y.K, onto 1 (fun _ => m') y.N, onto 1 (fun _ => s') y.S⟩ = cmpV k m s k' m' s' := by
  simp only [tc, Nat.add_comm 1]
  rw [TT_head _ _ (by simpa [onto] using hne)]
  simp [onto]

theorem ord_f (x y z : Fc) (w : World) : Calls Tryd.prog 6 #[.int .i64 (fc x y), .int .i64 (fc y z), .int .i64 (fc x z), .int .i64 (fc y x), .int .i64 (fc z y), .int .i64 (fc z x), .bool (sf x y), .bool (sf y z), .bool (sf x z)] w fun e w' => e = .returned (.bool true) ∧ w' = w := by
  have := ordered_true (fc x y) (fc y z) (fc x z) w (fc_O3 x y z)
  rwa [← fc_anti, ← fc_anti, ← fc_anti, fc_zero, fc_zero, fc_zero] at this
theorem ord_t (x y z : Fc) (w : World) : Calls Tryd.prog 6 #[.int .i64 (tc x y), .int .i64 (tc y z), .int .i64 (tc x z), .int .i64 (tc y x), .int .i64 (tc z y), .int .i64 (tc z x), .bool (sv x y), .bool (sv y z), .bool (sv x z)] w fun e w' => e = .returned (.bool true) ∧ w' = w := by
  have := ordered_true (tc x y) (tc y z) (tc x z) w (tc_O3 x y z)
  rwa [← tc_anti, ← tc_anti, ← tc_anti, tc_zero, tc_zero, tc_zero] at this

set_option maxRecDepth 100000 in
set_option maxHeartbeats 8000000 in
theorem columns_walk (x y z : Fc) (w : World) (ht : Tab w) (b1 : x.n ≤ 281474976710656) (b2 : y.n ≤ 281474976710656) (b3 : z.n ≤ 281474976710656) (hx : x.lies w) (hy : y.lies w) (hz : z.lies w) :
    Calls Tryd.prog 3 #[.agg #[.string x.p, .slice x.a x.n x.c], .agg #[.string y.p, .slice y.a y.n y.c], .agg #[.string z.p, .slice z.a z.n z.c]] w fun e w' => e = .returned (.bool true) ∧ Below w.heap.size w w' := by
  have bel4 : ∀ o o' o'' o3, Below w.heap.size w ((((w.alloc o).alloc o').alloc o'').alloc o3) := fun o o' o'' o3 => ((((Below.refl _ _).alloc (Nat.le_refl _) _).alloc (by simp) _).alloc (by simp; omega) _).alloc (by simp; omega) _
  have HB : Hid (sumL (fun i => if i = 0 then x.n else if i = 1 then y.n else z.n) 3 = x.n + y.n + z.n + 3) := by show sumL _ 3 = _; simp [sumL]; omega
  go_enter Tryd.func3, Tryd.ntmps3
  go_wp2_with fail
  refine (beyondFacts_any (w.heap.size + 1 + 1 + 1) 0 3 3 (fun i => if i = 0 then x.a else if i = 1 then y.a else z.a) (fun i => if i = 0 then x.n else if i = 1 then y.n else z.n) (fun i => if i = 0 then x.c else if i = 1 then y.c else z.c) _ (by omega) ?_ ?_).mono ?_
  · intro i hi
    show (if i = 0 then x.n else if i = 1 then y.n else z.n) ≤ _
    split
    · assumption
    · split <;> assumption
  · intro i hi
    obtain rfl | rfl | rfl : i = 0 ∨ i = 1 ∨ i = 2 := by omega
    · go_simp
    · go_simp
    · go_simp
  rintro e w0 ⟨rfl, rfl⟩
  rw [HB.out]
  by_cases hbig : 1048576 < x.n + y.n + z.n + 3
  · go_wp2
    go_ret
    exact ⟨rfl, bel4 _ _ _ _⟩
  · have hnx : x.n ≤ 1048576 := by omega
    have hny : y.n ≤ 1048576 := by omega
    have hnz : z.n ≤ 1048576 := by omega
    have hS : ∀ u, u = ((((w.alloc (.cells #[.string x.p, .slice x.a x.n x.c] 24)).alloc (.cells #[.string y.p, .slice y.a y.n y.c] 24)).alloc (.cells #[.string z.p, .slice z.a z.n z.c] 24)).alloc (.cells #[.string x.p, .slice x.a x.n x.c, .string y.p, .slice y.a y.n y.c, .string z.p, .slice z.a z.n z.c] 24)) → (w.heap.size + 2 < u.heap.size ∧ Below w.heap.size w u ∧ u.cell? ⟨w.heap.size, 0, none⟩ = some (.string x.p) ∧ u.cell? ⟨w.heap.size, 1, none⟩ = some (.slice x.a x.n x.c) ∧ u.cell? ⟨w.heap.size + 1, 0, none⟩ = some (.string y.p) ∧ u.cell? ⟨w.heap.size + 1, 1, none⟩ = some (.slice y.a y.n y.c) ∧ u.cell? ⟨w.heap.size + 2, 0, none⟩ = some (.string z.p) ∧ u.cell? ⟨w.heap.size + 2, 1, none⟩ = some (.slice z.a z.n z.c)) := by
      rintro u rfl
      refine ⟨by simp, bel4 _ _ _ _, ?_, ?_, ?_, ?_, ?_, ?_⟩ <;> go_simp
    clear HB
    go_wp2_with fail
    generalize hu0 : ((((w.alloc (.cells #[.string x.p, .slice x.a x.n x.c] 24)).alloc (.cells #[.string y.p, .slice y.a y.n y.c] 24)).alloc (.cells #[.string z.p, .slice z.a z.n z.c] 24)).alloc (.cells #[.string x.p, .slice x.a x.n x.c, .string y.p, .slice y.a y.n y.c, .string z.p, .slice z.a z.n z.c] 24)) = u0
    have hS0 := hS u0 hu0.symm
    clear hS hu0 hbig bel4
    go_upto_region 3 with fail
    go_cut [52] (fun t wc => t = .bool false ∧ (w.heap.size + 2 < wc.heap.size ∧ Below w.heap.size w wc ∧ wc.cell? ⟨w.heap.size, 0, none⟩ = some (.string x.p) ∧ wc.cell? ⟨w.heap.size, 1, none⟩ = some (.slice x.a x.n x.c) ∧ wc.cell? ⟨w.heap.size + 1, 0, none⟩ = some (.string y.p) ∧ wc.cell? ⟨w.heap.size + 1, 1, none⟩ = some (.slice y.a y.n y.c) ∧ wc.cell? ⟨w.heap.size + 2, 0, none⟩ = some (.string z.p) ∧ wc.cell? ⟨w.heap.size + 2, 1, none⟩ = some (.slice z.a z.n z.c)))
    case first =>
      go_region_held3 (fun u => (w.heap.size + 2 < u.heap.size ∧ Below w.heap.size w u ∧ u.cell? ⟨w.heap.size, 0, none⟩ = some (.string x.p) ∧ u.cell? ⟨w.heap.size, 1, none⟩ = some (.slice x.a x.n x.c) ∧ u.cell? ⟨w.heap.size + 1, 0, none⟩ = some (.string y.p) ∧ u.cell? ⟨w.heap.size + 1, 1, none⟩ = some (.slice y.a y.n y.c) ∧ u.cell? ⟨w.heap.size + 2, 0, none⟩ = some (.string z.p) ∧ u.cell? ⟨w.heap.size + 2, 1, none⟩ = some (.slice z.a z.n z.c)))
        (first
          | assumption
          | exact col_keep (by assumption) (by assumption)
          | exact col_drew hS0)
        (first
          | (go_at_call 5; refine (lives_true _ (ht.below (by first | exact hS0.2.1.drew | exact hS0.2.1))).mono ?_; rintro e w1 ⟨rfl, hb1⟩)
          | (go_at_call 7; refine (vcf _ _ _ (by first | exact hx.below (col_bel (x := x) (y := y) (z := z) (by assumption)) | exact hy.below (col_bel (x := x) (y := y) (z := z) (by assumption)) | exact hz.below (col_bel (x := x) (y := y) (z := z) (by assumption))) (by first | exact hx.below (col_bel (x := x) (y := y) (z := z) (by assumption)) | exact hy.below (col_bel (x := x) (y := y) (z := z) (by assumption)) | exact hz.below (col_bel (x := x) (y := y) (z := z) (by assumption)))).mono ?_; rintro e w' ⟨rfl, hbx⟩)
          | (go_at_call 8; refine (sfs _ _ _ (by first | exact hx.below (col_bel (x := x) (y := y) (z := z) (by assumption)) | exact hy.below (col_bel (x := x) (y := y) (z := z) (by assumption)) | exact hz.below (col_bel (x := x) (y := y) (z := z) (by assumption))) (by first | exact hx.below (col_bel (x := x) (y := y) (z := z) (by assumption)) | exact hy.below (col_bel (x := x) (y := y) (z := z) (by assumption)) | exact hz.below (col_bel (x := x) (y := y) (z := z) (by assumption)))).mono ?_; rintro e w' ⟨rfl, hbx⟩)
          | (go_at_call 6; refine (ord_f _ _ _ _).mono ?_; rintro e w' ⟨rfl, rfl⟩))
      go_wp2_with fail
      go_meet
      case rel => exact ⟨rfl, by assumption⟩
    case rest =>
      obtain ⟨rfl, hS1⟩ := hcut
      clear hS0
      have hS1' := hS1
      obtain ⟨q1, bel1, a0, a1, d0, d1, e0, e1⟩ := hS1'
      go_wp2_with fail
      go_quiet (fail)
      go_wp2_with fail
      have hS1n : (w.heap.size + 2 < (wc.drewN nq).heap.size ∧ Below w.heap.size w (wc.drewN nq) ∧ (wc.drewN nq).cell? ⟨w.heap.size, 0, none⟩ = some (.string x.p) ∧ (wc.drewN nq).cell? ⟨w.heap.size, 1, none⟩ = some (.slice x.a x.n x.c) ∧ (wc.drewN nq).cell? ⟨w.heap.size + 1, 0, none⟩ = some (.string y.p) ∧ (wc.drewN nq).cell? ⟨w.heap.size + 1, 1, none⟩ = some (.slice y.a y.n y.c) ∧ (wc.drewN nq).cell? ⟨w.heap.size + 2, 0, none⟩ = some (.string z.p) ∧ (wc.drewN nq).cell? ⟨w.heap.size + 2, 1, none⟩ = some (.slice z.a z.n z.c)) := ⟨q1, below_drewN bel1, a0, a1, d0, d1, e0, e1⟩
      clear hS1 bel1 a0 a1 d0 d1 e0 e1
      generalize wc.drewN nq = u1 at hS1n ⊢
      refine (num_any _ _).mono ?_
      rintro e u2 ⟨rfl, hb2⟩
      have hS2 := col_keep hb2 hS1n
      clear hS1n hb2 q1
      obtain ⟨q2, bel2, a0, a1, d0, d1, e0, e1⟩ := hS2
      go_upto_if 64 with fail
      go_cut [10] (fun t wc => t = .pointer (some ⟨u2.heap.size, 0, none⟩) ∧ ∃ (k m : Int) (s : ByteArray), CV w wc x y z u2.heap.size k m s)
      case first =>
        have hbase : ∀ o, (w.heap.size + 2 < (u2.alloc o).heap.size ∧ Below w.heap.size w (u2.alloc o) ∧ (u2.alloc o).cell? ⟨w.heap.size, 0, none⟩ = some (.string x.p) ∧ (u2.alloc o).cell? ⟨w.heap.size, 1, none⟩ = some (.slice x.a x.n x.c) ∧ (u2.alloc o).cell? ⟨w.heap.size + 1, 0, none⟩ = some (.string y.p) ∧ (u2.alloc o).cell? ⟨w.heap.size + 1, 1, none⟩ = some (.slice y.a y.n y.c) ∧ (u2.alloc o).cell? ⟨w.heap.size + 2, 0, none⟩ = some (.string z.p) ∧ (u2.alloc o).cell? ⟨w.heap.size + 2, 1, none⟩ = some (.slice z.a z.n z.c)) := fun o => col_keep ((Below.refl _ _).alloc (Nat.le_refl _) _) ⟨q2, bel2, a0, a1, d0, d1, e0, e1⟩
        by_cases h0 : z.n = 0
        · have h0' : ((z.n : Int) > 0) = False := by simp [h0]
          have HB : Hid (∀ o, (w.heap.size + 2 < (u2.alloc o).heap.size ∧ Below w.heap.size w (u2.alloc o) ∧ (u2.alloc o).cell? ⟨w.heap.size, 0, none⟩ = some (.string x.p) ∧ (u2.alloc o).cell? ⟨w.heap.size, 1, none⟩ = some (.slice x.a x.n x.c) ∧ (u2.alloc o).cell? ⟨w.heap.size + 1, 0, none⟩ = some (.string y.p) ∧ (u2.alloc o).cell? ⟨w.heap.size + 1, 1, none⟩ = some (.slice y.a y.n y.c) ∧ (u2.alloc o).cell? ⟨w.heap.size + 2, 0, none⟩ = some (.string z.p) ∧ (u2.alloc o).cell? ⟨w.heap.size + 2, 1, none⟩ = some (.slice z.a z.n z.c))) := hbase
          clear hbase
          go_wp2
          go_meet
          case rel => exact ⟨rfl, 1, z.n, ⟨#[]⟩, HB.out _, by simp, by omega, by go_simp, by go_simp, by go_simp, by decide⟩
        · obtain ⟨za, zc, he, hle, hcells⟩ := hz.form
          obtain ⟨rfl, _, rfl⟩ : z.a = za ∧ True ∧ z.c = zc := by simpa using he
          obtain ⟨g, off, ha, hc⟩ := hcells (by omega)
          have hg := hc.lt (by omega)
          have hgu : g < u2.heap.size := by omega
          have k0 : u2.cell? ⟨g, off, none⟩ = some (.int .i8 (z.K 0)) := by rw [bel2.cell (p := ⟨g, off, none⟩) hg]; simpa using hc.kind 0 (by omega)
          have k1 : u2.cell? ⟨g, off + 1, none⟩ = some (.int .i64 (z.N 0)) := by rw [bel2.cell (p := ⟨g, off + 1, none⟩) hg]; simpa using hc.num 0 (by omega)
          have k2 : u2.cell? ⟨g, off + 2, none⟩ = some (.string (z.S 0)) := by rw [bel2.cell (p := ⟨g, off + 2, none⟩) hg]; simpa using hc.text 0 (by omega)
          have ks := hc.size 0 (by omega)
          have HB : Hid (∀ o, (w.heap.size + 2 < (u2.alloc o).heap.size ∧ Below w.heap.size w (u2.alloc o) ∧ (u2.alloc o).cell? ⟨w.heap.size, 0, none⟩ = some (.string x.p) ∧ (u2.alloc o).cell? ⟨w.heap.size, 1, none⟩ = some (.slice x.a x.n x.c) ∧ (u2.alloc o).cell? ⟨w.heap.size + 1, 0, none⟩ = some (.string y.p) ∧ (u2.alloc o).cell? ⟨w.heap.size + 1, 1, none⟩ = some (.slice y.a y.n y.c) ∧ (u2.alloc o).cell? ⟨w.heap.size + 2, 0, none⟩ = some (.string z.p) ∧ (u2.alloc o).cell? ⟨w.heap.size + 2, 1, none⟩ = some (.slice z.a z.n z.c))) := hbase
          have h0' : (0 : Int) < (z.n : Int) := by omega
          clear hbase hc hcells he
          go_wp2
          go_meet
          case rel => exact ⟨rfl, z.K 0, z.N 0, z.S 0, HB.out _, by simp, by omega, by go_simp, by go_simp, by go_simp, ks⟩
      case rest =>
        obtain ⟨rfl, k, m, s, hV⟩ := hcut
        clear q2 bel2 a0 a1 d0 d1 e0 e1
        generalize u2.heap.size = B at hV ⊢
        go_upto_region 9 with fail
        go_cut [96] (fun t wc => t = .bool false ∧ CV w wc x y z B k m s)
        case first =>
          go_wp2_with (first
            | (go_at_call 10; refine (ct_held hV _ _ (by first | exact hx | exact hy | exact hz) (by first | exact hx | exact hy | exact hz)).mono ?_; clear hV; rintro e u' ⟨rfl, hV⟩)
            | (go_at_call 7; refine (cf_held hV _ _ (by first | exact hx | exact hy | exact hz) (by first | exact hx | exact hy | exact hz)).mono ?_; clear hV; rintro e u' ⟨rfl, hV⟩)
            | (go_at_call 11; refine (sv_held hV _ _ (by first | exact hx | exact hy | exact hz) (by first | exact hx | exact hy | exact hz)).mono ?_; clear hV; rintro e u' ⟨rfl, hV⟩)
            | (go_at_call 6; refine (ord_t _ _ _ _).mono ?_; rintro e u' ⟨rfl, rfl⟩))
          go_meet
          case rel => exact ⟨rfl, hV⟩
        case rest =>
          clear hV
          obtain ⟨rfl, hV⟩ := hcut
          go_upto_region 11 with fail
          go_cut [123] (fun t wc => t = .bool false ∧ CV w wc x y z B k m s)
          case first =>
            obtain ⟨_, _, a0, a1, d0, d1, _, _⟩ := hV.base
            by_cases he : x.p.toList = y.p.toList
            · have hl : Op.bytesLess x.p.toList y.p.toList = false := by
                cases hb : Op.bytesLess x.p.toList y.p.toList
                · rfl
                · exact absurd he (less_ne hb)
              have he' : (x.p.toList == y.p.toList) = true := by simpa using he
              have hf : fc x y = tc x y := fc_eq he
              clear he
              go_wp2_with (first
                | (go_at_call 10; refine (ct_held hV _ _ (by first | exact hx | exact hy | exact hz) (by first | exact hx | exact hy | exact hz)).mono ?_; clear hV a0 a1 d0 d1; rintro e u' ⟨rfl, hV⟩)
                | (go_at_call 7; refine (cf_held hV _ _ (by first | exact hx | exact hy | exact hz) (by first | exact hx | exact hy | exact hz)).mono ?_; clear hV a0 a1 d0 d1; rintro e u' ⟨rfl, hV⟩; obtain ⟨_, _, a0, a1, d0, d1, _, _⟩ := hV.base))
              go_meet
              case rel => exact ⟨by simp, hV⟩
            · have he' : (x.p.toList == y.p.toList) = false := by simpa using he
              clear he
              cases hl : Op.bytesLess x.p.toList y.p.toList
              · go_wp2
                go_meet
                case rel => exact ⟨rfl, hV⟩
              · have hf : fc x y = -1 := fc_lt hl
                go_wp2_with (first
                | (go_at_call 10; refine (ct_held hV _ _ (by first | exact hx | exact hy | exact hz) (by first | exact hx | exact hy | exact hz)).mono ?_; clear hV a0 a1 d0 d1; rintro e u' ⟨rfl, hV⟩)
                | (go_at_call 7; refine (cf_held hV _ _ (by first | exact hx | exact hy | exact hz) (by first | exact hx | exact hy | exact hz)).mono ?_; clear hV a0 a1 d0 d1; rintro e u' ⟨rfl, hV⟩; obtain ⟨_, _, a0, a1, d0, d1, _, _⟩ := hV.base))
                go_meet
                case rel => exact ⟨rfl, hV⟩
          case rest =>
            clear hV
            obtain ⟨rfl, hV⟩ := hcut
            go_upto_region 13 with fail
            go_cut [11] (fun t u => ∃ a c, t = .slice a (x.n + 1) c ∧ Lst u (.slice a (x.n + 1) c) (x.n + 1) (onto x.n x.K fun _ => k) (onto x.n x.N fun _ => m) (onto x.n x.S fun _ => s) ∧ CV w u x y z B k m s)
            case first =>
              have HV : Hid (CV w wc x y z B k m s) := hV
              have hc0 := hV.c0
              have hc1 := hV.c1
              have hc2 := hV.c2
              have hlt := hV.lt
              have hal : ∀ (u : World) o, Below u.heap.size u (u.alloc o) := fun u o => (Below.refl _ _).alloc (Nat.le_refl _) _
              clear hV
              go_region_law (first
                | (refine step_app0 rfl (.tmp 124) rfl (b := wc.heap.size) (ad := x.a) (m := x.n) (c := x.c) (w := wc.drew) (by simp [Act.eval, Act.put]) (hx.below HV.out.drew.bel) (by omega) (Nat.le_refl _) ?_
                   intro v1 w1 hown1 hb1
                   have hb1' : Below wc.heap.size wc w1 := (Below.refl _ _).drew.trans hb1
                   have hV1 := HV.out.keep hb1'
                   have r0 := hV1.c0
                   have r1 := hV1.c1
                   have r2 := hV1.c2
                   have r3 := hV1.lt)
                | (refine step_app0 rfl (.tmp 124) rfl (b := wc.heap.size) (ad := x.a) (m := x.n) (c := x.c) (w := wc.drew.alloc (.cells #[.int .i8 k, .int .i64 m, .string s] 34)) (by simp [Act.eval, Act.put]) (hx.below (HV.out.drew.keep (hal _ _)).bel) (by omega) (by simp) ?_
                   intro v1 w1 hown1 hb1
                   have hb1' : Below wc.heap.size wc w1 := (Below.refl _ wc).drew.trans ((hal wc.drew _).trans (hb1.mono (by simp)))
                   have hV1 := HV.out.keep hb1'
                   have r0 := hV1.c0
                   have r1 := hV1.c1
                   have r2 := hV1.c2
                   have r3 := hV1.lt)
                | (refine step_app rfl (.tmp 125) (.tmp 127) rfl (b := wc.heap.size) (v := v1) (ad := some ⟨w1.heap.size, 0, none⟩) (m := 1) (c := 1) (w := w1.alloc (.cells #[.int .i8 k, .int .i64 m, .string s] 34)) (by simp [Act.eval, Act.put]) (hown1.alloc _) (by simp [Act.eval, Act.put]) (one_lst w1 k m s HV.out.sz) (by omega) (Nat.le_trans hb1'.size (by simp)) ?_
                   intro v2 w2 hown2 hg2 hl2
                   have hb2 : Below wc.heap.size wc w2 := (hb1'.trans ((hal w1 _).mono hb1'.size)).grown hg2 (Nat.le_trans hb1'.size (by simp)) (fun j hj => (hown1.lt j hj).1)
                   have hV2 := HV.out.keep hb2
                   obtain ⟨la, lc, rfl, hL⟩ := own_onto hown2 (by omega) (by omega) (lst_size hx) (fun _ _ => HV.out.sz)
                   clear hown1 hb1 hb1' hV1 r0 r1 r2 r3 hown2 hg2 hl2 hb2)
                | (refine step_app rfl (.tmp 125) (.tmp 127) rfl (b := wc.heap.size) (v := v1) (ad := some ⟨wc.heap.size, 0, none⟩) (m := 1) (c := 1) (w := w1) (by simp [Act.eval, Act.put]) hown1 (by simp [Act.eval, Act.put]) ((one_lst wc.drew k m s HV.out.sz).below hb1) (by omega) hb1'.size ?_
                   intro v2 w2 hown2 hg2 hl2
                   have hb2 : Below wc.heap.size wc w2 := hb1'.grown hg2 hb1'.size (fun j hj => (hown1.lt j hj).1)
                   have hV2 := HV.out.keep hb2
                   obtain ⟨la, lc, rfl, hL⟩ := own_onto hown2 (by omega) (by omega) (lst_size hx) (fun _ _ => HV.out.sz)
                   clear hown1 hb1 hb1' hV1 r0 r1 r2 r3 hown2 hg2 hl2 hb2))
              all_goals
                go_wp2
                go_meet
                case rel => exact ⟨la, lc, rfl, hL, hV2⟩
            case rest =>
              clear hV
              obtain ⟨la, lc, rfl, hL, hV⟩ := hcut
              refine' ?_
              have hLL : Fc.lies ⟨x.p, la, x.n + 1, lc, onto x.n x.K fun _ => k, onto x.n x.N fun _ => m, onto x.n x.S fun _ => s⟩ wc := hL
              go_wp2_with fail
              refine (vct x ⟨x.p, la, x.n + 1, lc, onto x.n x.K fun _ => k, onto x.n x.N fun _ => m, onto x.n x.S fun _ => s⟩ wc (hx.below hV.bel) hLL).mono ?_
              rintro e u1 ⟨rfl, hb1⟩
              rw [tc_long]
              replace hV := hV.keep hb1
              clear hb1 hL hLL
              go_wp2_with (first
                | (at_builtin; refine wpList_app0 rfl (.tmp 133) rfl (b := u1.heap.size) (by simp [Act.eval, Act.put]) (hx.below hV.bel) (by omega) (Nat.le_refl _) ?_; intro v1 w1 hown1 hb1)
                | (at_builtin; refine wpList_app rfl (.tmp 134) (.tmp 135) rfl (b := u1.heap.size) (by simp [Act.eval, Act.put]) hown1 (by simp [Act.eval, Act.put]) (hy.below (hV.keep hb1).bel) (by omega) hb1.size ?_; intro v2 w2 hown2 hg2 hl2
                   have hb2 : Below u1.heap.size u1 w2 := hb1.grown hg2 hb1.size (fun j hj => (hown1.lt j hj).1)
                   replace hV := hV.keep hb2
                   obtain ⟨aa, ac, rfl, hAB⟩ := own_onto hown2 (by omega) (by omega) (lst_size hx) (lst_size hy)
                   clear hown1 hb1 hown2 hg2 hb2 hl2)
                | (at_builtin; refine wpList_app0 rfl (.tmp 137) rfl (b := w2.heap.size) (by simp [Act.eval, Act.put]) (hx.below hV.bel) (by omega) (Nat.le_refl _) ?_; intro v3 w3 hown3 hb3)
                | (at_builtin; refine wpList_app rfl (.tmp 138) (.tmp 139) rfl (b := w2.heap.size) (by simp [Act.eval, Act.put]) hown3 (by simp [Act.eval, Act.put]) (hz.below (hV.keep hb3).bel) (by omega) hb3.size ?_; intro v4 w4 hown4 hg4 hl4
                   have hb4 : Below w2.heap.size w2 w4 := hb3.grown hg4 hb3.size (fun j hj => (hown3.lt j hj).1)
                   replace hV := hV.keep hb4
                   replace hAB := hAB.below hb4
                   obtain ⟨ba, bc, rfl, hAC⟩ := own_onto hown4 (by omega) (by omega) (lst_size hx) (lst_size hz)
                   clear hown3 hb3 hown4 hg4 hb4 hl4))
              refine (vct ⟨x.p, aa, x.n + y.n, ac, onto x.n x.K y.K, onto x.n x.N y.N, onto x.n x.S y.S⟩ ⟨x.p, ba, x.n + z.n, bc, onto x.n x.K z.K, onto x.n x.N z.N, onto x.n x.S z.S⟩ w4 hAB hAC).mono ?_
              rintro e u5 ⟨rfl, hb5⟩
              rw [tc_both]
              replace hV := hV.keep hb5
              clear hb5 hAB hAC
              go_wp2_with fail
              refine (ct_held hV y z hy hz).mono ?_
              clear hV
              rintro e u6 ⟨rfl, hV⟩
              go_upto_region 20 with fail
              go_cut [14] (fun t u => t = .int .i64 (cmpV k m s 1 0 ⟨#[]⟩) ∧ CV w u x y z B k m s)
              case first =>
                go_region_held3 (fun u => CV w u x y z B k m s ∧ u.cell? ⟨B, 0, none⟩ = some (.int .i8 k) ∧ u.cell? ⟨B, 1, none⟩ = some (.int .i64 m) ∧ u.cell? ⟨B, 2, none⟩ = some (.string s))
                  (first
                    | assumption
                    | (have hk := CV.keep (by assumption) (by assumption); exact ⟨hk, hk.c0, hk.c1, hk.c2⟩)
                    | exact cv_keep (by assumption) (by assumption)
                    | exact ⟨hV.drew, hV.drew.c0, hV.drew.c1, hV.drew.c2⟩
                    | exact ⟨hV, hV.c0, hV.c1, hV.c2⟩)
                  (first
                    | (go_at_call 9; refine (num_any _ _).mono ?_; rintro e w' ⟨rfl, hbx⟩)
                    | (go_at_call 12; refine (vcompare_any _ _ _ _ _ _ _).mono ?_; rintro e w' ⟨rfl, hbx⟩))
                go_wp2_with fail
                go_meet
                case rel => rename_i hh; exact ⟨rfl, hh.1⟩
              case rest =>
                clear hV
                obtain ⟨rfl, hV⟩ := hcut
                have hc0 := hV.c0
                have hc1 := hV.c1
                have hc2 := hV.c2
                by_cases hn : cmpV k m s 1 0 ⟨#[]⟩ = 0
                · go_wp2
                  go_ret
                  exact ⟨rfl, hV.bel⟩
                · have hn' : (cmpV k m s 1 0 ⟨#[]⟩ == 0) = false := by simpa using hn
                  have HN : Hid (¬ cmpV k m s 1 0 ⟨#[]⟩ = 0) := hn
                  clear hn
                  generalize hcm : cmpV k m s 1 0 ⟨#[]⟩ = cm at hn' ⊢
                  have HCM : Hid (cmpV k m s 1 0 ⟨#[]⟩ = cm) := hcm
                  clear hcm
                  have hal : ∀ (u : World) o, Below u.heap.size u (u.alloc o) := fun u o => (Below.refl _ _).alloc (Nat.le_refl _) _
                  go_wp2_with (first
                    | (at_builtin; refine wpList_appG (.tmp 155) (.tmp 156) rfl (by first | rfl | simp [Region.wanted, yielded]) (b := wc.heap.size) (by simp [Act.eval, Act.put]) (one_own wc _ k m s (Nat.le_refl _)) (by simp [Act.eval, Act.put]) (hx.below (hV.keep (hal _ _)).bel) (by omega) (by simp) ?_; intro v1 w1 hown1 hg1 hl1
                       have hb1 : Below wc.heap.size wc w1 := (hal wc _).grown hg1 (by simp) (fun j hj => by simp [Value.ownBlock] at hj; omega)
                       have hs := hV.sz
                       replace hV := hV.keep hb1
                       obtain ⟨aa, ac, rfl, hA⟩ := own_onto hown1 (by omega) (by omega) (fun _ _ => hs) (lst_size hx)
                       clear hown1 hb1 hg1 hl1 hs)
                    | (go_at_call 9; refine (num_any _ _).mono ?_; rintro e w2 ⟨rfl, hb2⟩
                       replace hV := hV.keep hb2
                       replace hA := hA.below hb2
                       clear hb2)
                    | (at_builtin; refine wpList_appG (.tmp 159) (.tmp 160) rfl (by first | rfl | simp [Region.wanted, yielded]) (b := w2.heap.size) (by simp [Act.eval, Act.put]) (one_own w2 _ 1 0 ⟨#[]⟩ (Nat.le_refl _)) (by simp [Act.eval, Act.put]) (hy.below (hV.keep (hal _ _)).bel) (by omega) (by simp) ?_; intro v3 w3 hown3 hg3 hl3
                       have hb3 : Below w2.heap.size w2 w3 := (hal w2 _).grown hg3 (by simp) (fun j hj => by simp [Value.ownBlock] at hj; omega)
                       replace hV := hV.keep hb3
                       replace hA := hA.below hb3
                       obtain ⟨ba, bc, rfl, hB⟩ := own_onto hown3 (by omega) (by omega) (fun _ _ => by decide) (lst_size hy)
                       clear hown3 hb3 hg3 hl3)
                    | (go_at_call 10; refine (vct ⟨x.p, aa, 1 + x.n, ac, onto 1 (fun _ => k) x.K, onto 1 (fun _ => m) x.N, onto 1 (fun _ => s) x.S⟩ ⟨y.p, ba, 1 + y.n, bc, onto 1 (fun _ => 1) y.K, onto 1 (fun _ => 0) y.N, onto 1 (fun _ => ⟨#[]⟩) y.S⟩ _ hA hB).mono ?_; rintro e w5 ⟨rfl, hb5⟩
                       rw [tc_front x y k m s 1 0 ⟨#[]⟩ aa ba ac bc HN.out, HCM.out]
                       replace hV := hV.keep hb5
                       clear hb5 hA hB))
                  go_ret
                  exact ⟨by simp, hV.bel⟩

end Go.Proofs.YtmadbakpdmkebaaDoor
