import Derived.Test.YteabclfhmapabaaDoorA25
import Derived.Test.YteabclfhmapabaaDoorA18
import Derived.Test.YteabclfhmapabaaDoorA39
import Derived.Test.YteabclfhmapabaaDoorPlLv
import Derived.Test.YteabclfhmapabaaDoorPlOt
section
namespace Go.Proofs.YteabclfhmapabaaDoor
open Go.RowKit Go.Maps Go.Shelf
set_option linter.unusedVariables false
set_option linter.unusedSimpArgs false
attribute [local go_sem ↓] Go.wp_at_zero Go.wp_at_succ
attribute [local go_sem] Oper.semAt_some
attribute [-go_sem] loadVar

end Go.Proofs.YteabclfhmapabaaDoor
end
section
namespace Go.Proofs.YteabclfhmapabaaDoor
open Go.RowKit Go.Maps Go.Shelf
set_option linter.unusedVariables false
set_option linter.unusedSimpArgs false
attribute [local go_sem ↓] Go.wp_at_zero Go.wp_at_succ
attribute [local go_sem] Oper.semAt_some
attribute [-go_sem] loadVar

theorem run_idxZ (ev : Operand → Value) (o : Oper) {x y : Operand} (hop : o.op = .indexAddr 28 x y) (w : World) {g off n c k : Nat} (hx : ev x = .slice (some ⟨g, off, none⟩) n c) (hy : ev y = .int .i64 (k : Int)) (hk : k < n) : (execOp ev o).run Tryd.prog w = .ok (.value (.pointer (some ⟨g, off + k * 4, none⟩))) w := by
  have hk' : (k : Int) < (n : Int) := by omega
  have hk0 : (0 : Int) ≤ (k : Int) := by omega
  simp only [execOp, hop, hx, hy]
  go_simp
theorem run_fldPn1 (ev : Operand → Value) (o : Oper) {x : Operand} (hop : o.op = .fieldAddr 30 x 1) (w : World) {b : Nat} (hx : ev x = .pointer (some ⟨b, 0, none⟩)) : (execOp ev o).run Tryd.prog w = .ok (.value (.pointer (some ⟨b, 3, none⟩))) w := by
  simp only [execOp, hop, hx]
  go_simp
theorem run_fldZ1 (ev : Operand → Value) (o : Oper) {x : Operand} (hop : o.op = .fieldAddr 40 x 1) (w : World) {g f : Nat} (hx : ev x = .pointer (some ⟨g, f, none⟩)) : (execOp ev o).run Tryd.prog w = .ok (.value (.pointer (some ⟨g, f + 1, none⟩))) w := by
  simp only [execOp, hop, hx]
  go_simp
theorem litsB_y {d : Nat} {r : R3} (h : ruleB d r = true) : r.bd.all (fun y => litB y.x) = true := by
  unfold ruleB at h
  simp only [Bool.and_eq_true] at h
  exact h.2.2.2.2.1
theorem bodyN_y {d : Nat} {r : R3} (h : ruleB d r = true) : r.bd.length ≤ 16 := by
  unfold ruleB at h
  simp only [Bool.and_eq_true, decide_eq_true_eq] at h
  exact h.2.2.1
/-- what a plan that was made is -/
structure MkY (d : Nat) (r : R3) (l : List ByteArray) (first : Int) (u : World) (y : R3) (q : RP) (xs : List SX) (sa : Option Addr) (sc : Nat) : Prop where
  lk : LikeR r y
  ri : RIs u (d + 1) y q
  lz : Lz u (.slice sa xs.length sc) xs
  len : xs.length = r.bd.length
  nd : ((xs.map SX.s).map (fun s => s.i.toNat)).Nodup
  ps : ∀ s ∈ xs.map SX.s, 0 ≤ s.i
  fst : first = -1 ∨ (0 ≤ first ∧ 0 < xs.length ∧ (atZ xs 0).s.i = first)
  go : ∃ ss, goR (d + 1) r.bd l (2 ^ r.bd.length - 1) (xs.map SX.s) = some (ss, 0)
  rb : ruleB (d + 1) r = true
  kn : knB l l.length = true
  lm : ∃ fs, LimK (d + 1) l r fs ∧ fs.length = (vsT [] (termsR (d + 1) r)).length
theorem MkY.below {d : Nat} {r : R3} {l : List ByteArray} {first : Int} {u u' : World} {y : R3} {q : RP} {xs : List SX} {sa : Option Addr} {sc : Nat} (h : MkY d r l first u y q xs sa sc) (b : Below u.heap.size u u') : MkY d r l first u' y q xs sa sc :=
  ⟨h.lk, h.ri.below b, h.lz.below b, h.len, h.nd, h.ps, h.fst, h.go, h.rb, h.kn, h.lm⟩
theorem mkY_of {d : Nat} {r : R3} {l fs : List ByteArray} {first : Int} {u : World} {y : R3} {q : RP} {xs : List SX} {sa : Option Addr} {sc : Nat} (hb : ruleB (d + 1) r = true) (hk : knB l l.length = true) (hL : LimK (d + 1) l r fs) (hlen : fs.length = (vsT [] (termsR (d + 1) r)).length) (hf : first = -1 ∨ isAtM r.bd (2 ^ r.bd.length - 1) first = true) (hy : LikeR (resR [] (d + 1) r) y) (hri : RIs u (d + 1) y q) (hgt : Gt (d + 1) r.bd l (2 ^ r.bd.length - 1) (firstM (d + 1) l r.bd (2 ^ r.bd.length - 1) first) (xs.map SX.s)) (hlz : Lz u (.slice sa xs.length sc) xs) : MkY d r l first u y q xs sa sc := by
  rw [resR_nil hb] at hy
  obtain ⟨h1, h2, h3, h4, h5⟩ := made_right (litsB_y hb) (bodyN_y hb) hL hlen hf hgt
  refine ⟨hy, hri, hlz, by rw [← h2, List.length_map], h3, h4, ?_, h1, hb, hk, ⟨fs, hL, hlen⟩⟩
  by_cases hf1 : first = -1
  · exact .inl hf1
  · right
    obtain ⟨s, zs, e1, e2⟩ := h5 hf1
    cases xs with
    | nil => cases e1
    | cons x0 xt =>
      rw [List.map_cons] at e1
      injection e1 with e3 e4
      have e5 : (atZ (x0 :: xt) 0).s = s := e3
      refine ⟨?_, by rw [List.length_cons]; omega, by rw [e5]; exact e2⟩
      rw [← e2]
      exact h4 s (by rw [List.map_cons, e3]; exact List.mem_cons_self)
theorem load_litsY {u : World} {a : Addr} {v : Value} (h : u.cell? a = some v) : (loadVar 23 a).run Tryd.prog u = .ok v u := by rw [loadVar.eq_1]; go_simp
theorem load_ruB {u : World} {b : Nat} {t : TypeId} {x y z : Value} (h : RL u b t [x, y, z]) : (loadVar 25 ⟨b, 0, none⟩).run Tryd.prog u = .ok (.agg #[x, y, z]) u :=
  run_loadVar_mid _ _ 0 25 [x, y, z] _ (RL.range h) Tryd.underlying25 rfl (by kernel_rfl)
theorem load_ruPl {u : World} {b : Nat} {t : TypeId} {x y z v : Value} (h : RL u b t [x, y, z, v]) : (loadVar 25 ⟨b, 0, none⟩).run Tryd.prog u = .ok (.agg #[x, y, z]) u :=
  load_ruP (cs := [x, y, z]) (fun j v hv => by
    have hj : j < 3 := (List.getElem?_eq_some_iff.1 hv).1
    have hj6 : j = 0 ∨ j = 1 ∨ j = 2 := by omega
    rcases hj6 with rfl | rfl | rfl <;> exact RL.at h hv) rfl
end Go.Proofs.YteabclfhmapabaaDoor
end
section
namespace Go.Proofs.YteabclfhmapabaaDoor
open Go.RowKit Go.Maps Go.Shelf
set_option linter.unusedVariables false
set_option linter.unusedSimpArgs false

/-! what is made is eager (PlanEager) -/
theorem gt_at {d : Nat} {l : List XL} {ss : List ByteArray} {left : Nat} {c : St × Bool} {xs : List St} (h : Gt d l ss left c xs) (hf : FitS d ss l left c) : ∀ i, i < xs.length → ∃ ss' left' c', goR d l ss left (xs.take i) = some (ss', left') ∧ Gt d l ss' left' c' (xs.drop i) ∧ FitS d ss' l left' c' ∧ (0 < i → c' = nextM d ss' l left') ∧ (i = 0 → c' = c ∧ ss' = ss ∧ left' = left) := by
  induction h with
  | done ss left s => intro i hi; cases hi
  | more ss left s xs hr ih =>
    intro i hi
    cases i with
    | zero => exact ⟨ss, left, (s, true), rfl, .more ss left s xs hr, hf, fun h => absurd h (by omega), fun _ => ⟨rfl, rfl, rfl⟩⟩
    | succ i =>
      rw [List.length_cons] at hi
      obtain ⟨ss', left', c', h1, h2, h3, h4, h5⟩ := ih (nextM_fitS _ _ _ _) i (by omega)
      refine ⟨ss', left', c', ?_, h2, h3, fun _ => ?_, fun h => absurd h (by omega)⟩
      · rw [List.take_succ_cons, goR, if_pos (okW_fit hf), ← (hf rfl).2.1]
        exact h1
      · by_cases h0 : i = 0
        · obtain ⟨e1, e2, e3⟩ := h5 h0
          rw [e1, e2, e3]
        · exact h4 (by omega)
/-- the step at i, with what was there ahead of it -/
structure AtG (d : Nat) (l : List XL) (ss0 : List ByteArray) (left0 : Nat) (nx : Prop) (xs : List St) (i : Nat) (s : St) (ss : List ByteArray) (left : Nat) : Prop where
  go : goR d l ss0 left0 (xs.take i) = some (ss, left)
  has : hasB left s.i = true
  is : s = stL d ss l s.i.toNat
  nxt : nx → nextM d ss l left = (s, true)
  more : ∀ k, i ≤ k → ∀ t, xs[k]? = some t → left.testBit t.i.toNat = true
  lt : left < 2 ^ l.length
theorem goR_tk {d : Nat} {l : List XL} : ∀ (xs : List St) {ss ss' : List ByteArray} {left left' : Nat}, left < 2 ^ l.length → goR d l ss left xs = some (ss', left') → left' < 2 ^ l.length
  | [], ss, ss', left, left', hb, h => by
    injection h with h
    injection h with h1 h2
    subst h2
    exact hb
  | s :: xs, ss, ss', left, left', hb, h => by
    rw [goR] at h
    split at h
    · exact goR_tk xs (Nat.lt_of_le_of_lt (clrN_le _ _) hb) h
    · cases h
theorem okW_bit {d : Nat} {l : List XL} {ss : List ByteArray} {left : Nat} {s : St} (h : okW d l ss left s = true) : left.testBit s.i.toNat = true := by
  unfold okW hasB at h
  simp only [Bool.and_eq_true] at h
  exact h.1.2
theorem goR_bits {d : Nat} {l : List XL} : ∀ (xs : List St) {ss ss' : List ByteArray} {left left' : Nat}, l.length ≤ 16 → left < 2 ^ l.length → goR d l ss left xs = some (ss', left') → ∀ t ∈ xs, left.testBit t.i.toNat = true
  | [], ss, ss', left, left', _, _, h, t, ht => by cases ht
  | s :: xs, ss, ss', left, left', hl, hb, h, t, ht => by
    rw [goR] at h
    split at h
    · next ho =>
      rcases List.mem_cons.1 ht with rfl | ht
      · exact okW_bit ho
      · have h1 := goR_bits xs hl (Nat.lt_of_le_of_lt (clrN_le _ _) hb) h t ht
        obtain ⟨k, e1, e2, e3, e4, e5⟩ := okW_out hb ho
        have e6 : s.i.toNat = k := by omega
        rw [e6] at h1
        by_cases hk : t.i.toNat < 32
        · rw [clrN_bit hk (by omega)] at h1
          simp only [Bool.and_eq_true] at h1
          exact h1.1
        · have hlt := Nat.lt_of_le_of_lt (clrN_le left k) hb
          rw [Nat.testBit_lt_two_pow (Nat.lt_of_lt_of_le hlt (Nat.pow_le_pow_right (by omega) (by omega)))] at h1
          cases h1
    · cases h
theorem at_gt {d : Nat} {l : List XL} {ss0 : List ByteArray} {left0 : Nat} {c : St × Bool} {xs : List St} (hl : l.length ≤ 16) (hb : left0 < 2 ^ l.length) (h : Gt d l ss0 left0 c xs) (hf : FitS d ss0 l left0 c) {i : Nat} {s : St} (hs : xs[i]? = some s) : ∃ ss left, AtG d l ss0 left0 (0 < i ∨ c = nextM d ss0 l left0) xs i s ss left := by
  have hi : i < xs.length := (List.getElem?_eq_some_iff.1 hs).1
  obtain ⟨ss, left, c', h1, h2, h3, h4, h5⟩ := gt_at h hf i hi
  have hd : xs.drop i = s :: xs.drop (i + 1) := by
    rw [List.drop_eq_getElem_cons hi]
    rw [List.getElem?_eq_getElem hi] at hs
    rw [Option.some.inj hs]
  obtain ⟨ss2, left2, hg, _⟩ := gt_goR h2 h3 (fun hc => by
    rw [hd] at h2
    cases h2
    cases hc)
  have hlt := goR_tk _ hb h1
  rw [hd] at h2
  cases h2 with
  | more _ _ _ _ _ =>
    obtain ⟨f1, f2, f3⟩ := h3 rfl
    refine ⟨ss, left, h1, f1, f2, fun hn => ?_, fun k hk t ht => ?_, hlt⟩
    · rcases hn with hn | hn
      · exact (h4 hn).symm
      · by_cases h0 : i = 0
        · obtain ⟨e1, e2, e3⟩ := h5 h0
          rw [e1, hn, e2, e3]
        · exact (h4 (by omega)).symm
    · refine goR_bits _ hl hlt hg t ?_
      have : (xs.drop i)[k - i]? = some t := by
        rw [List.getElem?_drop]
        rw [show i + (k - i) = k by omega]
        exact ht
      exact List.mem_of_getElem? this
theorem bitsL_sorted (M : Nat) : (bitsL M).Pairwise (· < ·) := List.Pairwise.filter _ List.pairwise_lt_range
theorem find_least {l : List Nat} (hs : l.Pairwise (· < ·)) {p : Nat → Bool} {b : Nat} (h : l.find? p = some b) : ∀ y ∈ l, p y = true → b ≤ y := by
  intro y hy hp
  obtain ⟨hb, aa, bs, rfl, hn⟩ := List.find?_eq_some_iff_append.1 h
  rcases List.mem_append.1 hy with h1 | h1
  · have := hn y h1
    rw [hp] at this
    cases this
  · rcases List.mem_cons.1 h1 with rfl | h1
    · exact Nat.le_refl _
    · have h2 := (List.pairwise_append.1 hs).2.1
      have h3 := (List.pairwise_cons.1 h2).1 y h1
      omega
theorem mem_bits {M i : Nat} (hM : M.testBit i = true) (hi : i < 32) : i ∈ bitsL M := List.mem_filter.2 ⟨List.mem_range.2 hi, hM⟩
/-- what is next: a test, set or not that is ready, of the least number; or else the first atom -/
theorem next_cases {d : Nat} {ss : List ByteArray} {l : List XL} {left : Nat} {s : St} (h : nextM d ss l left = (s, true)) : ((atL l s.i.toNat).x.k ≠ 1 ∧ ∀ y, y < 32 → left.testBit y = true → tryN d ss l y = true → s.i.toNat ≤ y) ∨ ((atL l s.i.toNat).x.k = 1 ∧ (∀ y, y < 32 → left.testBit y = true → tryN d ss l y = false) ∧ ∀ y, y < 32 → left.testBit y = true → (atL l y).x.k = 1 → s.i.toNat ≤ y) := by
  unfold nextM at h
  split at h
  · next i hi =>
    injection h with h1 _
    subst h1
    rw [stL_i, Int.toNat_natCast]
    have hp := List.find?_some hi
    left
    refine ⟨?_, fun y hy hb ht => find_least (bitsL_sorted _) hi y (mem_bits hb hy) ht⟩
    unfold tryN at hp
    rw [Bool.and_eq_true, Bool.not_eq_true'] at hp
    exact of_decide_eq_false hp.1
  · next hn =>
    split at h
    · next i hi =>
      injection h with h1 _
      subst h1
      rw [stL_i, Int.toNat_natCast]
      have hp := List.find?_some hi
      right
      refine ⟨of_decide_eq_true hp, fun y hy hb => ?_, fun y hy hb hk => find_least (bitsL_sorted _) hi y (mem_bits hb hy) (decide_eq_true hk)⟩
      exact Bool.eq_false_iff.2 (List.find?_eq_none.1 hn y (mem_bits hb hy))
    · injection h with _ h2
      cases h2
/-- all that PlanEager asks of the steps -/
structure EgM (d : Nat) (l : List XL) (ss0 : List ByteArray) (nx : Nat → Prop) (xs : List SX) : Prop where
  rng : ∀ i, i < xs.length → ∃ k : Nat, (atZ xs i).s.i = (k : Int) ∧ k < l.length
  pos : ∀ j i, j < i → i < xs.length → nx j → (atL l (atZ xs j).s.i.toNat).x.k = 1 → (atL l (atZ xs i).s.i.toNat).x.k = 1 → (atZ xs j).s.i < (atZ xs i).s.i
  no : ∀ i k, i < k → k < xs.length → nx i → (atL l (atZ xs k).s.i.toNat).x.k ≠ 1 → ((atL l (atZ xs i).s.i.toNat).x.k = 1 ∨ (atZ xs k).s.i < (atZ xs i).s.i) → ∃ ss left, goR d l ss0 (2 ^ l.length - 1) ((xs.map SX.s).take i) = some (ss, left) ∧ okW d l ss left (atZ xs k).s = false
theorem mapS_at {xs : List SX} {i : Nat} (hi : i < xs.length) : (xs.map SX.s)[i]? = some (atZ xs i).s := by
  rw [List.getElem?_map, List.getElem?_eq_getElem hi, atZ_eq hi]
  rfl
theorem egM_of {d : Nat} {l : List XL} {ss0 : List ByteArray} {first : Int} {xs : List SX} (hl : l.length ≤ 16) (hf : first = -1 ∨ isAtM l (2 ^ l.length - 1) first = true) (h : Gt d l ss0 (2 ^ l.length - 1) (firstM d ss0 l (2 ^ l.length - 1) first) (xs.map SX.s)) (hn : ((xs.map SX.s).map (fun s => s.i.toNat)).Nodup) : EgM d l ss0 (fun i => 0 < i ∨ first = -1) xs := by
  have hb : 2 ^ l.length - 1 < 2 ^ l.length := by have := Nat.two_pow_pos l.length; omega
  have hF := (firstM_fitS (d := d) (ss := ss0) hf).1
  have hat : ∀ i, i < xs.length → ∃ ss left, AtG d l ss0 (2 ^ l.length - 1) (0 < i ∨ first = -1) (xs.map SX.s) i (atZ xs i).s ss left := fun i hi => by
    obtain ⟨ss, left, hA⟩ := at_gt hl hb h hF (mapS_at hi)
    refine ⟨ss, left, hA.go, hA.has, hA.is, fun hx => hA.nxt ?_, hA.more, hA.lt⟩
    rcases hx with hx | hx
    · exact .inl hx
    · right
      unfold firstM
      rw [if_pos hx]
  have hne : ∀ j i, j < i → i < xs.length → (atZ xs j).s.i.toNat ≠ (atZ xs i).s.i.toNat := fun j i hji hi e => by
    have h1 := List.pairwise_iff_getElem.1 hn j i (by simp; omega) (by simp; omega) hji
    simp only [List.getElem_map] at h1
    rw [atZ_eq (by omega), atZ_eq hi] at e
    exact h1 e
  have hrng : ∀ i, i < xs.length → ∃ k : Nat, (atZ xs i).s.i = (k : Int) ∧ k < l.length := fun i hi => by
    obtain ⟨ss, left, hA⟩ := hat i hi
    obtain ⟨h1, h2⟩ := hasB_lt hA.lt hA.has
    exact ⟨(atZ xs i).s.i.toNat, by omega, h2⟩
  refine ⟨hrng, fun j i hji hi hx hkj hki => ?_, fun i k hik hk hx hkk hc => ?_⟩
  · obtain ⟨ss, left, hA⟩ := hat j (by omega)
    obtain ⟨a, ea, la⟩ := hrng j (by omega)
    obtain ⟨b, eb, lb⟩ := hrng i hi
    have h3 := hne j i hji hi
    have hbit := hA.more i (by omega) _ (mapS_at hi)
    rcases next_cases (hA.nxt hx) with ⟨h1, _⟩ | ⟨_, _, h2⟩
    · exact absurd hkj h1
    · have h4 := h2 (atZ xs i).s.i.toNat (by rw [eb, Int.toNat_natCast]; omega) hbit hki
      rw [ea, eb, Int.toNat_natCast, Int.toNat_natCast] at h3 h4
      omega
  · obtain ⟨ss, left, hA⟩ := hat i (by omega)
    obtain ⟨a, ea, la⟩ := hrng i (by omega)
    obtain ⟨b, eb, lb⟩ := hrng k hk
    refine ⟨ss, left, hA.go, Bool.eq_false_iff.2 fun ho => ?_⟩
    have hbit := okW_bit ho
    have ht : tryN d ss l (atZ xs k).s.i.toNat = true := by
      unfold okW at ho
      simp only [Bool.and_eq_true] at ho
      unfold tryN
      rw [decide_eq_false hkk, ho.2.1]
      rfl
    have h32 : (atZ xs k).s.i.toNat < 32 := by rw [eb, Int.toNat_natCast]; omega
    rcases next_cases (hA.nxt hx) with ⟨h1, h2⟩ | ⟨_, h2, _⟩
    · rcases hc with hc | hc
      · exact h1 hc
      · have h3 := h2 _ h32 hbit ht
        rw [ea, eb, Int.toNat_natCast, Int.toNat_natCast] at h3
        omega
    · rw [h2 _ h32 hbit] at ht
      cases ht
/-- a plan's steps with one put ahead of another -/
def mvL (xs : List SX) (fr tq : Nat) : Nat → List SX
  | 0 => []
  | n + 1 => mvL xs fr tq n ++ ((if n = tq then [atZ xs fr] else []) ++ (if n = fr then [] else [atZ xs n]))
theorem mvL_len (xs : List SX) (fr tq : Nat) : ∀ n, (mvL xs fr tq n).length ≤ 2 * n
  | 0 => Nat.le_refl _
  | n + 1 => by
    have := mvL_len xs fr tq n
    unfold mvL
    rw [List.length_append, List.length_append]
    split <;> split <;> simp <;> omega
theorem mvL_head {xs : List SX} {fr tq : Nat} (h : tq < fr) (hf : fr < xs.length) : ∀ n, (n ≤ tq → mvL xs fr tq n = xs.take n) ∧ (tq < n → ∃ ys, mvL xs fr tq n = xs.take tq ++ atZ xs fr :: ys)
  | 0 => ⟨fun _ => rfl, fun h => absurd h (by omega)⟩
  | n + 1 => by
    obtain ⟨h1, h2⟩ := mvL_head h hf n
    constructor
    · intro hn
      unfold mvL
      rw [h1 (by omega), if_neg (by omega), if_neg (by omega), List.take_add_one, List.getElem?_eq_getElem (by omega), atZ_eq (by omega)]
      rfl
    · intro hn
      unfold mvL
      by_cases he : n = tq
      · rw [h1 (by omega), if_pos he, if_neg (by omega), he]
        exact ⟨[atZ xs tq], rfl⟩
      · obtain ⟨ys, hy⟩ := h2 (by omega)
        rw [hy]
        exact ⟨ys ++ ((if n = tq then [atZ xs fr] else []) ++ (if n = fr then [] else [atZ xs n])), by simp⟩
theorem goR_app {d : Nat} {l : List XL} : ∀ (a b : List St) {ss ss' : List ByteArray} {left left' : Nat}, goR d l ss left a = some (ss', left') → goR d l ss left (a ++ b) = goR d l ss' left' b
  | [], b, ss, ss', left, left', h => by
    injection h with h
    injection h with h1 h2
    subst h1 h2
    rfl
  | s :: a, b, ss, ss', left, left', h => by
    rw [goR] at h
    rw [List.cons_append, goR]
    split at h
    · next ho =>
      rw [if_pos ho]
      exact goR_app a b h
    · cases h
/-- moved so, they are not right -/
theorem moved_no {d : Nat} {l : List XL} {ss0 : List ByteArray} {left0 : Nat} {xs : List SX} {fr tq : Nat} (h : tq < fr) (hf : fr < xs.length) {ss : List ByteArray} {left : Nat} (hg : goR d l ss0 left0 ((xs.map SX.s).take tq) = some (ss, left)) (ho : okW d l ss left (atZ xs fr).s = false) : goR d l ss0 left0 ((mvL xs fr tq xs.length).map SX.s) = none := by
  obtain ⟨ys, hy⟩ := (mvL_head h hf xs.length).2 (by omega)
  rw [hy, List.map_append, List.map_cons, List.map_take, goR_app _ _ hg, goR, if_neg (by rw [ho]; decide)]
/-- what Make answers, for PlanEager -/
def MkE (d : Nat) (r : R3) (l : List ByteArray) (first : Int) (u : World) (pr : ByteArray) (ra : Option Addr) (rn rc : Nat) (ba : Option Addr) (bn bc : Nat) (sa : Option Addr) (sn sc : Nat) (er : Int) : Prop :=
  ((er = 40 ∨ er = 1 ∨ er = 73 ∨ er = 120) ∧ sn = 0) ∨
  (er = 0 ∧ (first = -1 ∨ 0 ≤ first) ∧ ∃ (y : R3) (q : RP) (xs : List SX), pr = y.pr ∧ ra = q.a ∧ rn = y.hd.length ∧ rc = q.c ∧ ba = q.ba ∧ bn = y.bd.length ∧ bc = q.bc ∧ sn = xs.length ∧ MkY d r l first u y q xs sa sc ∧ EgM (d + 1) r.bd l (fun i => 0 < i ∨ first = -1) xs)
theorem makeE_any (d : Nat) (r : R3) (p : RP) (w : World) (hKT : KT w) (hDT : DT w) (hR : RIs w (d + 1) r p) (hs : smallR (d + 1) r) (hT : (termsR (d + 1) r).length ≤ 1048576) {v : Value} {l : List ByteArray} (hl : Ls w v l.length (l.flatMap strB)) (hsz : ∀ i, i < l.length → (atS l i).size ≤ maxLen) (first : Int) :
    Calls Tryd.prog 6 #[r.val p, v, .int .i64 first] w fun e w' => Below w.heap.size w w' ∧ ∃ (pr : ByteArray) (ra : Option Addr) (rn rc : Nat) (ba : Option Addr) (bn bc : Nat) (sa : Option Addr) (sn sc : Nat) (er : Int),
      e = .returned (.tuple #[.agg #[.string pr, .slice ra rn rc, .slice ba bn bc, .slice sa sn sc], .int .i64 er]) ∧ MkE d r l first w' pr ra rn rc ba bn bc sa sn sc er := by
  refine (make_any d r p w hKT hDT hR hs hT hl hsz first).mono ?_
  rintro e w' ⟨hb, h⟩
  refine ⟨hb, ?_⟩
  rcases h with ⟨h1, rfl⟩ | ⟨h1, h2, rfl⟩ | ⟨h1, h2, fs, hlk, ⟨h3, rfl⟩ | ⟨h3, ⟨h4, h5, rfl⟩ | ⟨hf, y, q, xs, a, c, rfl, hy, hri, hgt, hlz⟩⟩⟩
  · exact ⟨⟨#[]⟩, none, 0, 0, none, 0, 0, none, 0, 0, 40, rfl, .inl ⟨.inl rfl, rfl⟩⟩
  · exact ⟨⟨#[]⟩, none, 0, 0, none, 0, 0, none, 0, 0, 1, rfl, .inl ⟨.inr (.inl rfl), rfl⟩⟩
  · exact ⟨⟨#[]⟩, none, 0, 0, none, 0, 0, none, 0, 0, 73, rfl, .inl ⟨.inr (.inr (.inl rfl)), rfl⟩⟩
  · exact ⟨⟨#[]⟩, none, 0, 0, none, 0, 0, none, 0, 0, 120, rfl, .inl ⟨.inr (.inr (.inr rfl)), rfl⟩⟩
  · have hY := mkY_of h1 h2 hlk h3 hf hy hri hgt hlz
    refine ⟨y.pr, q.a, y.hd.length, q.c, q.ba, y.bd.length, q.bc, a, xs.length, c, 0, rfl, .inr ⟨rfl, ?_, y, q, xs, rfl, rfl, rfl, rfl, rfl, rfl, rfl, rfl, hY, egM_of (bodyN_y h1) hf hgt hY.nd⟩⟩
    rcases hY.fst with h | h
    · exact .inl h
    · exact .inr h.1
end Go.Proofs.YteabclfhmapabaaDoor
end
