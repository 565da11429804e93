import Derived.Test.YteabclfhmapabaaGreatDoorPsT
import Derived.Test.YteabclfhmapabaaGreatDoorPlOt
namespace Go.Proofs.YteabclfhmapabaaGreatDoor
open Go.RowKit Go.Maps Go.Shelf
set_option linter.unusedVariables false
set_option linter.unusedSimpArgs false
attribute [local go_sem ↓] Go.wp_at_zero Go.wp_at_succ
attribute [local go_sem] Oper.semAt_some
attribute [-go_sem] loadVar

theorem run_idxI (ev : Operand → Value) (o : Oper) {x y : Operand} (hop : o.op = .indexAddr 56 x y) (w : World) {g off n c k : Nat} (hx : ev x = .slice (some ⟨g, off, none⟩) n c) (hy : ev y = .int .i64 (k : Int)) (hk : k < n) : (execOp ev o).run Tryz.prog w = .ok (.value (.pointer (some ⟨g, off + k, none⟩))) w := by
  have hk' : (k : Int) < (n : Int) := by omega
  have hk0 : (0 : Int) ≤ (k : Int) := by omega
  simp only [execOp, hop, hx, hy]
  go_simp
theorem run_idxZ (ev : Operand → Value) (o : Oper) {x y : Operand} (hop : o.op = .indexAddr 28 x y) (w : World) {g off n c k : Nat} (hx : ev x = .slice (some ⟨g, off, none⟩) n c) (hy : ev y = .int .i64 (k : Int)) (hk : k < n) : (execOp ev o).run Tryz.prog w = .ok (.value (.pointer (some ⟨g, off + k * 4, none⟩))) w := by
  have hk' : (k : Int) < (n : Int) := by omega
  have hk0 : (0 : Int) ≤ (k : Int) := by omega
  simp only [execOp, hop, hx, hy]
  go_simp
theorem run_fldPn1 (ev : Operand → Value) (o : Oper) {x : Operand} (hop : o.op = .fieldAddr 30 x 1) (w : World) {b : Nat} (hx : ev x = .pointer (some ⟨b, 0, none⟩)) : (execOp ev o).run Tryz.prog w = .ok (.value (.pointer (some ⟨b, 3, none⟩))) w := by
  simp only [execOp, hop, hx]
  go_simp
theorem run_fldZ1 (ev : Operand → Value) (o : Oper) {x : Operand} (hop : o.op = .fieldAddr 61 x 1) (w : World) {g f : Nat} (hx : ev x = .pointer (some ⟨g, f, none⟩)) : (execOp ev o).run Tryz.prog w = .ok (.value (.pointer (some ⟨g, f + 1, none⟩))) w := by
  simp only [execOp, hop, hx]
  go_simp
theorem eqlI_run {x y : Int} (h : ¬ x = y) (u : World) : (binOp .eql 3 (.int .i64 x) (.int .i64 y)).run Tryz.prog u = .ok (.bool false) u := by
  have h1 : (x == y) = false := by rw [beq_eq_false_iff_ne]; exact h
  go_simp
theorem lim_limK {r : R3} {d : Nat} {fs : List ByteArray} (h : Lim (eqL d r.bd) (atN r.bd) fs) : LimK d [] r fs := by
  have e1 : eqL d (kbL d [] r) = eqL d r.bd := rfl
  have e2 : atN (kbL d [] r) = atN r.bd := by
    unfold kbL
    rw [aheadT_nil]
    rfl
  obtain ⟨hi, hs⟩ := h
  exact ⟨by rw [e1, e2]; exact hi, by rw [e1]; exact hs⟩
theorem litsB_y {d : Nat} {r : R3} (h : ruleB d r = true) : r.bd.all (fun y => litB y.x) = true := by
  unfold ruleB at h
  simp only [Bool.and_eq_true] at h
  exact h.2.2.2.2.1
theorem bodyN_y {d : Nat} {r : R3} (h : ruleB d r = true) : r.bd.length ≤ 16 := by
  unfold ruleB at h
  simp only [Bool.and_eq_true, decide_eq_true_eq] at h
  exact h.2.2.1
/-- what a plan that was made is -/
structure MkY (d : Nat) (r : R3) (l : List ByteArray) (first : Int) (u : World) (y : R3) (q : RP) (xs : List SX) (sa : Option Addr) (sc : Nat) : Prop where
  lk : LikeR r y
  ri : RIs u (d + 1) y q
  lz : Lz u (.slice sa xs.length sc) xs
  len : xs.length = r.bd.length
  nd : ((xs.map SX.s).map (fun s => s.i.toNat)).Nodup
  ps : ∀ s ∈ xs.map SX.s, 0 ≤ s.i
  fst : first = -1 ∨ (0 ≤ first ∧ 0 < xs.length ∧ (atZ xs 0).s.i = first)
  go : ∃ ss, goR (d + 1) r.bd l (2 ^ r.bd.length - 1) (xs.map SX.s) = some (ss, 0)
  rb : ruleB (d + 1) r = true
  kn : knB l l.length = true
  lm : ∃ fs, LimK (d + 1) l r fs ∧ fs.length = (vsT [] (termsR (d + 1) r)).length
theorem MkY.below {d : Nat} {r : R3} {l : List ByteArray} {first : Int} {u u' : World} {y : R3} {q : RP} {xs : List SX} {sa : Option Addr} {sc : Nat} (h : MkY d r l first u y q xs sa sc) (b : Below u.heap.size u u') : MkY d r l first u' y q xs sa sc :=
  ⟨h.lk, h.ri.below b, h.lz.below b, h.len, h.nd, h.ps, h.fst, h.go, h.rb, h.kn, h.lm⟩
theorem mkY_of {d : Nat} {r : R3} {l fs : List ByteArray} {first : Int} {u : World} {y : R3} {q : RP} {xs : List SX} {sa : Option Addr} {sc : Nat} (hb : ruleB (d + 1) r = true) (hk : knB l l.length = true) (hL : LimK (d + 1) l r fs) (hlen : fs.length = (vsT [] (termsR (d + 1) r)).length) (hf : first = -1 ∨ isAtM r.bd (2 ^ r.bd.length - 1) first = true) (hy : LikeR (resR [] (d + 1) r) y) (hri : RIs u (d + 1) y q) (hgt : Gt (d + 1) r.bd l (2 ^ r.bd.length - 1) (firstM (d + 1) l r.bd (2 ^ r.bd.length - 1) first) (xs.map SX.s)) (hlz : Lz u (.slice sa xs.length sc) xs) : MkY d r l first u y q xs sa sc := by
  rw [resR_nil hb] at hy
  obtain ⟨h1, h2, h3, h4, h5⟩ := made_right (litsB_y hb) (bodyN_y hb) hL hlen hf hgt
  refine ⟨hy, hri, hlz, by rw [← h2, List.length_map], h3, h4, ?_, h1, hb, hk, ⟨fs, hL, hlen⟩⟩
  by_cases hf1 : first = -1
  · exact .inl hf1
  · right
    obtain ⟨s, zs, e1, e2⟩ := h5 hf1
    cases xs with
    | nil => cases e1
    | cons x0 xt =>
      rw [List.map_cons] at e1
      injection e1 with e3 e4
      have e5 : (atZ (x0 :: xt) 0).s = s := e3
      refine ⟨?_, by rw [List.length_cons]; omega, by rw [e5]; exact e2⟩
      rw [← e2]
      exact h4 s (by rw [List.map_cons, e3]; exact List.mem_cons_self)
/-- a plan that was made is right -/
theorem right_y {d : Nat} {r : R3} {l : List ByteArray} {first : Int} {u : World} {y : R3} {q : RP} {xs : List SX} {sa : Option Addr} {sc : Nat} (hY : MkY d r l first u y q xs sa sc) (hK : KT u) (hs : smallR (d + 1) r) (hT : (termsR (d + 1) r).length ≤ 1048576) {v : Value} (hl : Ls u v l.length (l.flatMap strB)) (hsz : ∀ i, i < l.length → (atS l i).size ≤ maxLen) :
    Calls Tryz.prog 9 #[.agg #[.string y.pr, .slice q.a y.hd.length q.c, .slice q.ba y.bd.length q.bc, .slice sa xs.length sc], v] u fun e w' => e = .returned (.bool true) ∧ Below u.heap.size u w' := by
  refine (right_any d y q xs u hK hY.ri (hY.lk.small hs) (by rw [hY.lk.terms]; exact hT) hY.lz hl hsz).mono ?_
  rintro e w' ⟨hb, h⟩
  refine ⟨?_, hb⟩
  obtain ⟨fs, hlk, hln⟩ := hY.lm
  rcases h with ⟨_, h | h | ⟨f2, hlk2, h⟩⟩ | ⟨_, _, f2, _, _, rfl⟩
  · rw [hY.lk.ruleB, hY.rb] at h
    cases h
  · rw [hY.kn] at h
    cases h
  · refine absurd ?_ h
    rw [hY.lk.terms, LimK.one (hY.lk.limK hlk2) hlk, hln]
  · obtain ⟨ss, hg⟩ := hY.go
    rw [hY.lk.bl, hY.lk.goR, hg]
    rfl
/-- what Make answers: a plan's cells and an error -/
def MkC (d : Nat) (r : R3) (l : List ByteArray) (first : Int) (u : World) (pr : ByteArray) (ra : Option Addr) (rn rc : Nat) (ba : Option Addr) (bn bc : Nat) (sa : Option Addr) (sn sc : Nat) (er : Int) : Prop :=
  (er = 40 ∧ ruleB (d + 1) r = false) ∨ (er = 1 ∧ ruleB (d + 1) r = true ∧ knB l l.length = false) ∨ (er = 73 ∧ ruleB (d + 1) r = true ∧ knB l l.length = true ∧ ∃ fs, LimK (d + 1) l r fs ∧ fs.length ≠ (vsT [] (termsR (d + 1) r)).length) ∨
  (er = 120 ∧ ruleB (d + 1) r = true ∧ knB l l.length = true ∧ first ≠ -1 ∧ isAtM r.bd (2 ^ r.bd.length - 1) first = false) ∨
  (er = 0 ∧ ∃ (y : R3) (q : RP) (xs : List SX), pr = y.pr ∧ ra = q.a ∧ rn = y.hd.length ∧ rc = q.c ∧ ba = q.ba ∧ bn = y.bd.length ∧ bc = q.bc ∧ sn = xs.length ∧ MkY d r l first u y q xs sa sc)
theorem makeS_any (d : Nat) (r : R3) (p : RP) (w : World) (hKT : KT w) (hDT : DT w) (hR : RIs w (d + 1) r p) (hs : smallR (d + 1) r) (hT : (termsR (d + 1) r).length ≤ 1048576) {v : Value} {l : List ByteArray} (hl : Ls w v l.length (l.flatMap strB)) (hsz : ∀ i, i < l.length → (atS l i).size ≤ maxLen) (first : Int) :
    Calls Tryz.prog 5 #[r.val p, v, .int .i64 first] w fun e w' => Below w.heap.size w w' ∧ ∃ (pr : ByteArray) (ra : Option Addr) (rn rc : Nat) (ba : Option Addr) (bn bc : Nat) (sa : Option Addr) (sn sc : Nat) (er : Int),
      e = .returned (.tuple #[.agg #[.string pr, .slice ra rn rc, .slice ba bn bc, .slice sa sn sc], .int .i64 er]) ∧ MkC d r l first w' pr ra rn rc ba bn bc sa sn sc er := by
  refine (make_any d r p w hKT hDT hR hs hT hl hsz first).mono ?_
  rintro e w' ⟨hb, h⟩
  refine ⟨hb, ?_⟩
  rcases h with ⟨h1, rfl⟩ | ⟨h1, h2, rfl⟩ | ⟨h1, h2, fs, hlk, ⟨h3, rfl⟩ | ⟨h3, ⟨h4, h5, rfl⟩ | ⟨hf, y, q, xs, a, c, rfl, hy, hri, hgt, hlz⟩⟩⟩
  · exact ⟨⟨#[]⟩, none, 0, 0, none, 0, 0, none, 0, 0, 40, rfl, .inl ⟨rfl, h1⟩⟩
  · exact ⟨⟨#[]⟩, none, 0, 0, none, 0, 0, none, 0, 0, 1, rfl, .inr (.inl ⟨rfl, h1, h2⟩)⟩
  · exact ⟨⟨#[]⟩, none, 0, 0, none, 0, 0, none, 0, 0, 73, rfl, .inr (.inr (.inl ⟨rfl, h1, h2, fs, hlk, h3⟩))⟩
  · exact ⟨⟨#[]⟩, none, 0, 0, none, 0, 0, none, 0, 0, 120, rfl, .inr (.inr (.inr (.inl ⟨rfl, h1, h2, h4, h5⟩)))⟩
  · exact ⟨y.pr, q.a, y.hd.length, q.c, q.ba, y.bd.length, q.bc, a, xs.length, c, 0, rfl, .inr (.inr (.inr (.inr ⟨rfl, y, q, xs, rfl, rfl, rfl, rfl, rfl, rfl, rfl, rfl, mkY_of h1 h2 hlk h3 hf hy hri hgt hlz⟩)))⟩
/-- with nothing known Make's error is check.Rule's -/
theorem mkC_nil {d : Nat} {r : R3} {u : World} {pr : ByteArray} {ra : Option Addr} {rn rc : Nat} {ba : Option Addr} {bn bc : Nat} {sa : Option Addr} {sn sc : Nat} {er : Int} (h : MkC d r [] (-1) u pr ra rn rc ba bn bc sa sn sc er) {fs : List ByteArray} (hf : Lim (eqL (d + 1) r.bd) (atN r.bd) fs) : er = ruE (d + 1) r fs := by
  rcases h with ⟨rfl, h1⟩ | ⟨_, _, h1⟩ | ⟨rfl, h1, _, f2, h2, h3⟩ | ⟨_, _, _, h1, _⟩ | ⟨rfl, y, q, xs, _, _, _, _, _, _, _, _, hY⟩
  · exact (ru_no fs h1).symm
  · cases h1
  · rw [limK_ru (lim_limK hf) h1, if_neg]
    rw [← LimK.one h2 (lim_limK hf)]
    exact h3
  · exact absurd rfl h1
  · obtain ⟨f2, h2, h3⟩ := hY.lm
    rw [limK_ru (lim_limK hf) hY.rb, if_pos]
    rw [← LimK.one h2 (lim_limK hf)]
    exact h3
theorem ru_73 {d : Nat} {r : R3} {l f1 fs : List ByteArray} (hf : Lim (eqL (d + 1) r.bd) (atN r.bd) fs) (hb : ruleB (d + 1) r = true) (h : LimK (d + 1) l r f1) (hn : f1.length ≠ (vsT [] (termsR (d + 1) r)).length) : ruE (d + 1) r fs = 73 := by
  rw [limK_ru (lim_limK hf) hb, if_neg]
  exact fun e => hn (limK_more (lim_limK hf) h e)
/-- the literals' numbers, in a list -/
def sI (y : SX) : Value := .int .i64 y.s.i
theorem take_sI {xs : List SX} {j : Nat} (h : j < xs.length) : (xs.take (j + 1)).map sI = (xs.take j).map sI ++ [.int .i64 (atZ xs j).s.i] := by
  rw [List.take_add_one, List.getElem?_eq_getElem h, atZ_eq h, List.map_append]
  rfl
theorem seen_form {w : World} {B : Nat} {a : Option Addr} {c : Nat} {xs : List SX} {j : Nat} (h : w.ownsRow B 3 1 (.slice a j c) j ((xs.take j).map sI)) (hj : j ≤ xs.length) : 0 < j → ∃ g off, a = some ⟨g, off, none⟩ ∧ g < w.heap.size ∧ ∀ m, m < j → w.cell? ⟨g, off + m, none⟩ = some (.int .i64 (atZ xs m).s.i) := by
  intro h0
  obtain ⟨_, a', c', e, _, _, hc⟩ := ls_own h
  injection e with e1 e2 e3
  subst e1
  obtain ⟨g, off, ha, hg, hf⟩ := hc h0
  refine ⟨g, off, ha, hg, fun m hm => ?_⟩
  have hl : m < ((xs.take j).map sI).length := by rw [List.length_map, List.length_take]; omega
  rw [hf m hl, List.getElem_map, List.getElem_take, atZ_eq (by omega)]
  rfl
theorem nd_ne {xs : List SX} (hn : ((xs.map SX.s).map (fun s => s.i.toNat)).Nodup) (hp : ∀ s ∈ xs.map SX.s, 0 ≤ s.i) {m j : Nat} (hm : m < j) (hj : j < xs.length) : ¬ (atZ xs m).s.i = (atZ xs j).s.i := by
  intro e
  have h1 := List.pairwise_iff_getElem.1 hn m j (by simp; omega) (by simp; omega) hm
  simp only [List.getElem_map] at h1
  rw [atZ_eq (by omega), atZ_eq hj] at e
  exact h1 (by rw [e])
theorem infoIntS : (Tryz.prog.info? 3).map (fun i => (i.zero, i.size, i.bytes)) = some (some (.int .i64 0), 1, 8) := by kernel_rfl
theorem load_litsY {u : World} {a : Addr} {v : Value} (h : u.cell? a = some v) : (loadVar 23 a).run Tryz.prog u = .ok v u := by rw [loadVar.eq_1]; go_simp
theorem load_ruB {u : World} {b : Nat} {t : TypeId} {x y z : Value} (h : RL u b t [x, y, z]) : (loadVar 25 ⟨b, 0, none⟩).run Tryz.prog u = .ok (.agg #[x, y, z]) u :=
  run_loadVar_mid _ _ 0 25 [x, y, z] _ (RL.range h) Tryz.underlying25 rfl (by kernel_rfl)
theorem load_ruPl {u : World} {b : Nat} {t : TypeId} {x y z v : Value} (h : RL u b t [x, y, z, v]) : (loadVar 25 ⟨b, 0, none⟩).run Tryz.prog u = .ok (.agg #[x, y, z]) u :=
  load_ruP (cs := [x, y, z]) (fun j v hv => by
    have hj : j < 3 := (List.getElem?_eq_some_iff.1 hv).1
    have hj6 : j = 0 ∨ j = 1 ∨ j = 2 := by omega
    rcases hj6 with rfl | rfl | rfl <;> exact RL.at h hv) rfl
/-- the first literal's number, by cases -/
theorem first_cs {l : List XL} (first : Int) : first < -1 ∨ (¬ first < -1 ∧ (l.length : Int) ≤ first) ∨ first = -1 ∨ ∃ k : Nat, first = (k : Int) ∧ k < l.length := by
  by_cases h1 : first < -1
  · exact .inl h1
  by_cases h2 : (l.length : Int) ≤ first
  · exact .inr (.inl ⟨h1, h2⟩)
  by_cases h3 : first = -1
  · exact .inr (.inr (.inl h3))
  exact .inr (.inr (.inr ⟨first.toNat, by omega, by omega⟩))
theorem isAt_k {l : List XL} {k : Nat} (hk : k < l.length) (h : isAtM l (2 ^ l.length - 1) (k : Int) = false) : (atL l k).x.k ≠ 1 := by
  intro he
  unfold isAtM hasB at h
  rw [Int.toNat_natCast, decide_eq_true he, decide_eq_true (by omega : 0 ≤ (k : Int)), Nat.testBit_two_pow_sub_one, decide_eq_true hk] at h
  cases h
def psu23_takes : List (List Nat × Nat) := [([], 0), ([0], 1), ([0, 1], 2), ([0, 1, 2], 3), ([0, 1, 2, 3], 4), ([0, 1, 2, 3, 4], 5), ([0, 1, 2, 3, 4, 5], 6), ([0, 1, 2, 3, 4, 5, 6], 7), ([0, 1, 2, 3, 4, 5, 6, 7], 8), ([0, 1, 2, 3, 4, 5, 6, 7, 8], 9), ([0, 1, 2, 3, 4, 5, 6, 7, 8, 9], 10)]
set_option maxHeartbeats 3200000 in
theorem psu23 {ops : Array Oper} {Q : Exit → Act → World → Prop} {S : World → Prop} {a0 : Act} {w5 : World} {b7 g1 f1 k c1 m g2 f2 n c2 j : Nat} {x y : Int}
    (q0 : isOpG ops 0 none (.move (.tmp 12)) (some 121))
    (q1 : isOpG ops 1 none (.move (.tmp 14)) (some 122))
    (q2 : isOpG ops 2 none (.indexAddr 56 (.tmp 121) (.tmp 122)) (some 123))
    (q3 : isOpG ops 3 none (.load 3 (.tmp 123)) (some 124))
    (q4 : isOpG ops 4 none (.fieldAddr 30 (.tmp 7) 1) (some 125))
    (q5 : isOpG ops 5 none (.load 28 (.tmp 125)) (some 126))
    (q6 : isOpG ops 6 none (.move (.tmp 13)) (some 127))
    (q7 : isOpG ops 7 none (.indexAddr 28 (.tmp 126) (.tmp 127)) (some 128))
    (q8 : isOpG ops 8 none (.fieldAddr 61 (.tmp 128) 1) (some 129))
    (q9 : isOpG ops 9 none (.load 3 (.tmp 129)) (some 130))
    (q10 : isOpG ops 10 none (.binOp .eql 3 (.tmp 124) (.tmp 130) 3) (some 131))
    (hs : Region.noSelect ops = true) (hq : (psu23_takes.all fun p => Region.free .any ops (LR 11 p.1) p.2 && (Region.ready .any ops (LR 11 p.1)).contains p.2) = true)
    (rend : Region.ready .any ops (LR 11 [0, 1, 2, 3, 4, 5, 6, 7, 8, 9, 10]) = [])
    (hQ : ∀ (d : Option Tmp) (v : Value) c a w, Q (.panic c) (a.put d v) w → Q (.panic c) a w)
    (hsz : 131 < a0.tmps.size) (e7 : a0.eval (.tmp 7) = .pointer (some ⟨b7, 0, none⟩)) (e12 : a0.eval (.tmp 12) = .slice (some ⟨g1, f1, none⟩) k c1) (e13 : a0.eval (.tmp 13) = .int .i64 (j : Int)) (e14 : a0.eval (.tmp 14) = .int .i64 (m : Int))
    (hS0 : S w5.drew)
    (hm : m < k) (hj : j < n) (LA : ∀ u, S u → (loadVar 3 ⟨g1, f1 + m, none⟩).run Tryz.prog u = .ok (.int .i64 x) u) (LB : ∀ u, S u → (loadVar 28 ⟨b7, 3, none⟩).run Tryz.prog u = .ok (.slice (some ⟨g2, f2, none⟩) n c2) u) (LC : ∀ u, S u → (loadVar 3 ⟨g2, f2 + j * 4 + 1, none⟩).run Tryz.prog u = .ok (.int .i64 y) u) (EQ : ∀ u : World, (binOp .eql 3 (.int .i64 x) (.int .i64 y)).run Tryz.prog u = .ok (.bool false) u)
    (F : ∀ (wc : World), S wc → Q .normal (((((((((((a0.put (some 121) (.slice (some ⟨g1, f1, none⟩) k c1)).put (some 122) (.int .i64 (m : Int))).put (some 123) (.pointer (some ⟨g1, f1 + m, none⟩))).put (some 124) (.int .i64 x)).put (some 125) (.pointer (some ⟨b7, 3, none⟩))).put (some 126) (.slice (some ⟨g2, f2, none⟩) n c2)).put (some 127) (.int .i64 (j : Int))).put (some 128) (.pointer (some ⟨g2, f2 + j * 4, none⟩))).put (some 129) (.pointer (some ⟨g2, f2 + j * 4 + 1, none⟩))).put (some 130) (.int .i64 y)).put (some 131) (.bool false)) wc) :
    wpAnyH Tryz.prog .any ops Q S 11 (LR 11 []) a0 w5.drew := by
  have hall : ∀ p ∈ psu23_takes, Region.free .any ops (LR 11 p.1) p.2 = true ∧ (Region.ready .any ops (LR 11 p.1)).contains p.2 = true := by
    intro p hp
    have := List.all_eq_true.1 hq p hp
    simpa using this
  unfold psu23_takes at hall
  obtain ⟨o0, ho, hg, hop, hd⟩ := isOpG_out q0
  have hfr := hall ([], 0) (by simp)
  refine wpAnyH_take (listed := LR 11 []) (v := .slice (some ⟨g1, f1, none⟩) k c1) ho hs hfr.1 hfr.2 (hQ _ _) (Or.inl ⟨(wantedN hg), fun w' hS => run_move _ _ hop w' (by (repeat rw [eval_far _ _ (by decide)]); exact e12)⟩) hS0 ?_
  rw [hd, ← LR_snoc]
  clear ho hg hop hd hfr
  obtain ⟨o1, ho, hg, hop, hd⟩ := isOpG_out q1
  have hfr := hall ([0], 1) (by simp)
  refine wpAnyH_take (listed := LR 11 [0]) (v := .int .i64 (m : Int)) ho hs hfr.1 hfr.2 (hQ _ _) (Or.inl ⟨(wantedN hg), fun w' hS => run_move _ _ hop w' (by (repeat rw [eval_far _ _ (by decide)]); exact e14)⟩) hS0 ?_
  rw [hd, ← LR_snoc]
  clear ho hg hop hd hfr
  obtain ⟨o2, ho, hg, hop, hd⟩ := isOpG_out q2
  have hfr := hall ([0, 1], 2) (by simp)
  refine wpAnyH_take (listed := LR 11 [0, 1]) (v := .pointer (some ⟨g1, f1 + m, none⟩)) ho hs hfr.1 hfr.2 (hQ _ _) (Or.inl ⟨(wantedN hg), fun w' hS => run_idxI _ _ hop w' (by (repeat (first | rw [eval_same _ _ (by (try simp only [put_size]); omega)] | rw [eval_far _ _ (by decide)]))) (by (repeat (first | rw [eval_same _ _ (by (try simp only [put_size]); omega)] | rw [eval_far _ _ (by decide)]))) hm⟩) hS0 ?_
  rw [hd, ← LR_snoc]
  clear ho hg hop hd hfr
  obtain ⟨o3, ho, hg, hop, hd⟩ := isOpG_out q3
  have hfr := hall ([0, 1, 2], 3) (by simp)
  refine wpAnyH_take (listed := LR 11 [0, 1, 2]) (v := .int .i64 x) ho hs hfr.1 hfr.2 (hQ _ _) (Or.inl ⟨(wantedN hg), fun w' hS => run_loadG _ _ hop w' (by (repeat (first | rw [eval_same _ _ (by (try simp only [put_size]); omega)] | rw [eval_far _ _ (by decide)]))) (LA _ hS)⟩) hS0 ?_
  rw [hd, ← LR_snoc]
  clear ho hg hop hd hfr
  obtain ⟨o4, ho, hg, hop, hd⟩ := isOpG_out q4
  have hfr := hall ([0, 1, 2, 3], 4) (by simp)
  refine wpAnyH_take (listed := LR 11 [0, 1, 2, 3]) (v := .pointer (some ⟨b7, 3, none⟩)) ho hs hfr.1 hfr.2 (hQ _ _) (Or.inl ⟨(wantedN hg), fun w' hS => run_fldPn1 _ _ hop w' (by (repeat rw [eval_far _ _ (by decide)]); exact e7)⟩) hS0 ?_
  rw [hd, ← LR_snoc]
  clear ho hg hop hd hfr
  obtain ⟨o5, ho, hg, hop, hd⟩ := isOpG_out q5
  have hfr := hall ([0, 1, 2, 3, 4], 5) (by simp)
  refine wpAnyH_take (listed := LR 11 [0, 1, 2, 3, 4]) (v := .slice (some ⟨g2, f2, none⟩) n c2) ho hs hfr.1 hfr.2 (hQ _ _) (Or.inl ⟨(wantedN hg), fun w' hS => run_loadG _ _ hop w' (by (repeat (first | rw [eval_same _ _ (by (try simp only [put_size]); omega)] | rw [eval_far _ _ (by decide)]))) (LB _ hS)⟩) hS0 ?_
  rw [hd, ← LR_snoc]
  clear ho hg hop hd hfr
  obtain ⟨o6, ho, hg, hop, hd⟩ := isOpG_out q6
  have hfr := hall ([0, 1, 2, 3, 4, 5], 6) (by simp)
  refine wpAnyH_take (listed := LR 11 [0, 1, 2, 3, 4, 5]) (v := .int .i64 (j : Int)) ho hs hfr.1 hfr.2 (hQ _ _) (Or.inl ⟨(wantedN hg), fun w' hS => run_move _ _ hop w' (by (repeat rw [eval_far _ _ (by decide)]); exact e13)⟩) hS0 ?_
  rw [hd, ← LR_snoc]
  clear ho hg hop hd hfr
  obtain ⟨o7, ho, hg, hop, hd⟩ := isOpG_out q7
  have hfr := hall ([0, 1, 2, 3, 4, 5, 6], 7) (by simp)
  refine wpAnyH_take (listed := LR 11 [0, 1, 2, 3, 4, 5, 6]) (v := .pointer (some ⟨g2, f2 + j * 4, none⟩)) ho hs hfr.1 hfr.2 (hQ _ _) (Or.inl ⟨(wantedN hg), fun w' hS => run_idxZ _ _ hop w' (by (repeat (first | rw [eval_same _ _ (by (try simp only [put_size]); omega)] | rw [eval_far _ _ (by decide)]))) (by (repeat (first | rw [eval_same _ _ (by (try simp only [put_size]); omega)] | rw [eval_far _ _ (by decide)]))) hj⟩) hS0 ?_
  rw [hd, ← LR_snoc]
  clear ho hg hop hd hfr
  obtain ⟨o8, ho, hg, hop, hd⟩ := isOpG_out q8
  have hfr := hall ([0, 1, 2, 3, 4, 5, 6, 7], 8) (by simp)
  refine wpAnyH_take (listed := LR 11 [0, 1, 2, 3, 4, 5, 6, 7]) (v := .pointer (some ⟨g2, f2 + j * 4 + 1, none⟩)) ho hs hfr.1 hfr.2 (hQ _ _) (Or.inl ⟨(wantedN hg), fun w' hS => run_fldZ1 _ _ hop w' (by (repeat (first | rw [eval_same _ _ (by (try simp only [put_size]); omega)] | rw [eval_far _ _ (by decide)])))⟩) hS0 ?_
  rw [hd, ← LR_snoc]
  clear ho hg hop hd hfr
  obtain ⟨o9, ho, hg, hop, hd⟩ := isOpG_out q9
  have hfr := hall ([0, 1, 2, 3, 4, 5, 6, 7, 8], 9) (by simp)
  refine wpAnyH_take (listed := LR 11 [0, 1, 2, 3, 4, 5, 6, 7, 8]) (v := .int .i64 y) ho hs hfr.1 hfr.2 (hQ _ _) (Or.inl ⟨(wantedN hg), fun w' hS => run_loadG _ _ hop w' (by (repeat (first | rw [eval_same _ _ (by (try simp only [put_size]); omega)] | rw [eval_far _ _ (by decide)]))) (LC _ hS)⟩) hS0 ?_
  rw [hd, ← LR_snoc]
  clear ho hg hop hd hfr
  obtain ⟨o10, ho, hg, hop, hd⟩ := isOpG_out q10
  have hfr := hall ([0, 1, 2, 3, 4, 5, 6, 7, 8, 9], 10) (by simp)
  refine wpAnyH_take (listed := LR 11 [0, 1, 2, 3, 4, 5, 6, 7, 8, 9]) (v := .bool false) ho hs hfr.1 hfr.2 (hQ _ _) (Or.inl ⟨(wantedN hg), fun w' hS => run_binV _ _ hop w' (by (repeat (first | rw [eval_same _ _ (by (try simp only [put_size]); omega)] | rw [eval_far _ _ (by decide)]))) (by (repeat (first | rw [eval_same _ _ (by (try simp only [put_size]); omega)] | rw [eval_far _ _ (by decide)]))) (by first | rfl | go_simp) (EQ w')⟩) hS0 ?_
  rw [hd, ← LR_snoc]
  clear ho hg hop hd hfr
  exact wpAnyH_done rend (F _ hS0) _
end Go.Proofs.YteabclfhmapabaaGreatDoor
