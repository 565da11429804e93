import Derived.Test.YteabclfhmapabaaDoorPwG
namespace Go.Proofs.YteabclfhmapabaaDoor
open Go.RowKit Go.Maps Go.Shelf
set_option linter.unusedVariables false
set_option linter.unusedSimpArgs false

/-! more that is known: no more given, no fewer columns known (PlanWider) -/
theorem knT_mono {ss tt : List ByteArray} (h : ∀ n ∈ ss, n ∈ tt) {t : T} (hk : knT ss t = true) : knT tt t = true := by
  unfold knT at hk ⊢
  rw [Bool.or_eq_true] at hk ⊢
  rcases hk with hk | hk
  · exact .inl hk
  · exact .inr (inB_iff.2 (h _ (inB_iff.1 hk)))
theorem colM_sub {ss tt : List ByteArray} (h : ∀ n ∈ ss, n ∈ tt) (ts : List T) : ∀ k j, (colM ss ts k).testBit j = true → (colM tt ts k).testBit j = true
  | 0, j, hj => by
    have e : colM ss ts 0 = 0 := rfl
    rw [e, Nat.zero_testBit] at hj
    cases hj
  | k + 1, j, hj => by
    unfold colM at hj ⊢
    by_cases hs : knT ss (atT ts k) = true
    · rw [if_pos hs] at hj
      rw [if_pos (knT_mono h hs)]
      rw [Nat.testBit_or, Bool.or_eq_true] at hj ⊢
      rcases hj with hj | hj
      · exact .inl (colM_sub h ts k j hj)
      · exact .inr hj
    · rw [if_neg hs] at hj
      have h1 := colM_sub h ts k j hj
      by_cases ht : knT tt (atT ts k) = true
      · rw [if_pos ht, Nat.testBit_or, Bool.or_eq_true]
        exact .inl h1
      · rw [if_neg ht]
        exact h1
theorem colM_lor {ss tt : List ByteArray} (h : ∀ n ∈ ss, n ∈ tt) (ts : List T) (k : Nat) : colM ss ts k ||| colM tt ts k = colM tt ts k := by
  refine Nat.eq_of_testBit_eq fun j => ?_
  rw [Nat.testBit_or]
  rcases hb : (colM ss ts k).testBit j with _ | _
  · rw [Bool.false_or]
  · rw [colM_sub h ts k j hb]
    rfl
theorem stL_m (d : Nat) (ss : List ByteArray) (l : List XL) (k : Nat) : (stL d ss l k).m = ((colM ss (atL l k).x.ts (atL l k).x.ts.length : Nat) : Int) := by
  unfold stL stM
  split
  · rfl
  · split <;> rfl
/-- what the two plans know ahead of a step -/
structure WdA (d : Nat) (l : List XL) (k0 k1 : List ByteArray) (more : ByteArray) (xs ys : List SX) (i : Nat) (ss tt : List ByteArray) (l1 l2 : Nat) : Prop where
  go1 : goR d l k0 (2 ^ l.length - 1) ((xs.take i).map SX.s) = some (ss, l1)
  go2 : goR d l k1 (2 ^ l.length - 1) ((ys.take i).map SX.s) = some (tt, l2)
  sub : ∀ n ∈ ss, n ∈ tt
  mem : more ∈ tt
  lt1 : l1 < 2 ^ l.length
  lt2 : l2 < 2 ^ l.length
theorem litB_at {l : List XL} (hx : l.all (fun y => litB y.x) = true) {k : Nat} (hk : k < l.length) : litB (atL l k).x = true := by
  rw [List.all_eq_true] at hx
  rw [atL_eq hk]
  exact hx _ (List.getElem_mem hk)
theorem wd_step {d : Nat} {l : List XL} {k0 k1 : List ByteArray} {more : ByteArray} {xs ys : List SX} (hx : l.all (fun y => litB y.x) = true) {r1 r2 : List ByteArray × Nat} (hp : goR d l k0 (2 ^ l.length - 1) (xs.map SX.s) = some r1) (hq : goR d l k1 (2 ^ l.length - 1) (ys.map SX.s) = some r2) (hlen : xs.length = ys.length) (hs : ∀ i, i < xs.length → (atZ xs i).s.i = (atZ ys i).s.i) {i : Nat} (hi : i < xs.length) {ss tt : List ByteArray} {l1 l2 : Nat} (h : WdA d l k0 k1 more xs ys i ss tt l1 l2) :
    (∃ l1' l2', WdA d l k0 k1 more xs ys (i + 1) (ss ++ (atZ xs i).s.g) (tt ++ (atZ ys i).s.g) l1' l2') ∧ (∃ a b : Nat, (atZ xs i).s.m = (a : Int) ∧ (atZ ys i).s.m = (b : Int) ∧ a ||| b = b ∧ a < 4294967296 ∧ b < 4294967296) ∧ ∀ n ∈ (atZ ys i).s.g, n ∈ (atZ xs i).s.g ∧ n ≠ more := by
  have o1 := goR_prefix hp hi h.go1
  have o2 := goR_prefix hq (by omega) h.go2
  obtain ⟨a, a1, a2, a3, a4, a5⟩ := okW_out h.lt1 o1
  obtain ⟨b, b1, b2, b3, b4, b5⟩ := okW_out h.lt2 o2
  have hab : a = b := by
    have := hs i hi
    omega
  subst hab
  have hl := litB_at hx a2
  have g1 := stM_gives (d := d) (ss := ss) (k := a) hl a4
  have g2 := stM_gives (d := d) (ss := tt) (k := a) hl b4
  have e1 : stM d ss (atL l a).x a = (atZ xs i).s := a5.symm
  have e2 : stM d tt (atL l a).x a = (atZ ys i).s := b5.symm
  rw [e1] at g1
  rw [e2] at g2
  have n1 := goR_goes hi h.go1 o1
  have n2 := goR_goes (by omega) h.go2 o2
  have f1 : (atZ xs i).s.i.toNat = a := by omega
  have f2 : (atZ ys i).s.i.toNat = a := by omega
  rw [f1, ← a5] at n1
  rw [f2, ← b5] at n2
  have hlb : (atL l a).x.ts.length ≤ 24 := litB_cols hl
  have hpw : (2 : Nat) ^ (atL l a).x.ts.length ≤ 2 ^ 24 := Nat.pow_le_pow_right (by omega) hlb
  refine ⟨⟨_, _, n1, n2, fun n hn => ?_, List.mem_append.2 (.inl h.mem), Nat.lt_of_le_of_lt (clrN_le _ _) h.lt1, Nat.lt_of_le_of_lt (clrN_le _ _) h.lt2⟩, ⟨colM ss (atL l a).x.ts (atL l a).x.ts.length, colM tt (atL l a).x.ts (atL l a).x.ts.length, ?_, ?_, colM_lor h.sub _ _, ?_, ?_⟩, fun n hn => ⟨?_, fun he => ?_⟩⟩
  · rcases List.mem_append.1 hn with hn | hn
    · exact List.mem_append.2 (.inl (h.sub n hn))
    · exact g2.all n (g1.own n hn)
  · rw [a5]
    exact stL_m _ _ _ _
  · rw [b5]
    exact stL_m _ _ _ _
  · have := colM_lt ss (atL l a).x.ts (atL l a).x.ts.length
    omega
  · have := colM_lt tt (atL l a).x.ts (atL l a).x.ts.length
    omega
  · rcases List.mem_append.1 (g1.all n (g2.own n hn)) with h1 | h1
    · exact absurd (h.sub n h1) (newL_not g2.new hn)
    · exact h1
  · subst he
    exact newL_not g2.new hn h.mem
where
  newL_not {ss g : List ByteArray} (h : NewL ss g) {n : ByteArray} (hn : n ∈ g) : n ∉ ss := by
    obtain ⟨i, hi, e⟩ := List.getElem_of_mem hn
    have h1 := newL_at h hi
    rw [List.mem_append] at h1
    rw [atS_eq hi, e] at h1
    exact fun hh => h1 (.inl hh)
/-- all that PlanWider asks of the steps -/
structure WdM (more : ByteArray) (xs ys : List SX) : Prop where
  msk : ∀ i, i < xs.length → ∃ a b : Nat, (atZ xs i).s.m = (a : Int) ∧ (atZ ys i).s.m = (b : Int) ∧ a ||| b = b ∧ a < 4294967296 ∧ b < 4294967296
  giv : ∀ i, i < xs.length → ∀ n ∈ (atZ ys i).s.g, n ∈ (atZ xs i).s.g ∧ n ≠ more
theorem wdM_of {d : Nat} {l : List XL} {k0 : List ByteArray} {more : ByteArray} {xs ys : List SX} (hx : l.all (fun y => litB y.x) = true) {r1 r2 : List ByteArray × Nat} (hp : goR d l k0 (2 ^ l.length - 1) (xs.map SX.s) = some r1) (hq : goR d l (k0 ++ [more]) (2 ^ l.length - 1) (ys.map SX.s) = some r2) (hlen : xs.length = ys.length) (hs : ∀ i, i < xs.length → (atZ xs i).s.i = (atZ ys i).s.i) : WdM more xs ys := by
  have hb : 2 ^ l.length - 1 < 2 ^ l.length := by have := Nat.two_pow_pos l.length; omega
  have hall : ∀ i, i ≤ xs.length → ∃ ss tt l1 l2, WdA d l k0 (k0 ++ [more]) more xs ys i ss tt l1 l2 := by
    intro i
    induction i with
    | zero => exact fun _ => ⟨k0, k0 ++ [more], _, _, rfl, rfl, fun n hn => List.mem_append.2 (.inl hn), by simp, hb, hb⟩
    | succ i ih =>
      intro hi
      obtain ⟨ss, tt, l1, l2, h⟩ := ih (by omega)
      obtain ⟨⟨l1', l2', h1⟩, _⟩ := wd_step hx hp hq hlen hs (by omega) h
      exact ⟨_, _, _, _, h1⟩
  refine ⟨fun i hi => ?_, fun i hi => ?_⟩
  · obtain ⟨ss, tt, l1, l2, h⟩ := hall i (by omega)
    exact (wd_step hx hp hq hlen hs hi h).2.1
  · obtain ⟨ss, tt, l1, l2, h⟩ := hall i (by omega)
    exact (wd_step hx hp hq hlen hs hi h).2.2
/-- with more known no less is limited, whatever was known -/
theorem limK_mono2 {d : Nat} {r : R3} {k0 k1 f0 f1 : List ByteArray} (hk : ∀ n ∈ k0, n ∈ k1) (h0 : LimK (d + 1) k0 r f0) (h1 : LimK (d + 1) k1 r f1) : ∀ x ∈ f0, x ∈ f1 := by
  obtain ⟨k, hk0⟩ := h0.it
  obtain ⟨j, hk1⟩ := h1.it
  obtain ⟨more, hm⟩ := itQ_grow (eqL (d + 1) (kbL (d + 1) k1 r)) j (atN (kbL (d + 1) k1 r))
  have hst : rndQ (eqL (d + 1) r.bd) f1 = f1 := h1.st
  have hk2 : f0 = itQ (eqL (d + 1) r.bd) k (atN (kbL (d + 1) k0 r)) := hk0
  rw [hk2]
  refine it_shut _ (still_shut hst) k _ (fun x hx => ?_)
  rw [hk1, hm, List.mem_append]
  left
  unfold atN at hx ⊢
  rw [foldN_mem] at hx ⊢
  rcases hx with hx | hx
  · cases hx
  · right
    unfold kbL avL at *
    rw [List.flatMap_cons, List.mem_append] at hx ⊢
    rcases hx with hx | hx
    · left
      have hx1 : x ∈ vsT [] (aheadT k0 (vsT [] (termsR (d + 1) r))) := hx
      show x ∈ vsT [] (aheadT k1 (vsT [] (termsR (d + 1) r)))
      refine vsT_sub (fun t ht => ?_) x hx1
      unfold aheadT at ht ⊢
      obtain ⟨m, hm1, rfl⟩ := List.mem_map.1 ht
      have hm2 := List.mem_filter.1 hm1
      exact List.mem_map.2 ⟨m, List.mem_filter.2 ⟨hm2.1, inB_iff.2 (hk m (inB_iff.1 hm2.2))⟩, rfl⟩
    · exact .inr hx
theorem limK_more2 {d : Nat} {r : R3} {k0 k1 f0 f1 : List ByteArray} (hk : ∀ n ∈ k0, n ∈ k1) (h0 : LimK (d + 1) k0 r f0) (h1 : LimK (d + 1) k1 r f1) (hf : f0.length = (vsT [] (termsR (d + 1) r)).length) : f1.length = (vsT [] (termsR (d + 1) r)).length :=
  (limK_full h1).2 (fun n hn => limK_mono2 hk h0 h1 n ((limK_full h0).1 hf n hn))
end Go.Proofs.YteabclfhmapabaaDoor
