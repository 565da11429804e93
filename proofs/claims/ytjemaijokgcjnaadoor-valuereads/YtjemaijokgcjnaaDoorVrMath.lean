import Derived.Test.YtjemaijokgcjnaaDoorVtThere
import Derived.Test.YtjemaijokgcjnaaDoorRingMath
namespace Go.Proofs.YtjemaijokgcjnaaDoor
open Go.RowKit Go.Maps
set_option linter.unusedVariables false
set_option linter.unusedSimpArgs false

/-! the number that a text's bytes say, wrapped -/
def numS (n : Int) (c : UInt8) : Int := if c.toNat = 45 then n else wrap64 (wrap64 (wrap64 (10 * n) + (c.toNat : Int)) - 48)
def numF (l : List UInt8) : Int := l.foldl numS 0
def numN (l : List UInt8) : Int := if l.head? = some 45 then wrap64 (-numF l) else numF l
theorem numS_in {n : Int} (h : In64 n) (c : UInt8) : In64 (numS n c) := by
  unfold numS
  split
  · exact h
  · exact wrap_in _
theorem numF_from : ∀ (l : List UInt8) (n : Int), In64 n → In64 (l.foldl numS n)
  | [], n, h => h
  | c :: l, n, h => numF_from l _ (numS_in h c)
theorem numF_in (l : List UInt8) : In64 (numF l) := numF_from l 0 (by unfold In64; decide)
theorem numN_in (l : List UInt8) : In64 (numN l) := by
  unfold numN
  split
  · exact wrap_in _
  · exact numF_in l
theorem numF_take {l : List UInt8} {q : Nat} (h : q < l.length) : numF (l.take (q + 1)) = numS (numF (l.take q)) l[q] := by
  unfold numF
  rw [List.take_add_one, List.getElem?_eq_getElem h, List.foldl_append]
  rfl
theorem dig_step {c : UInt8} (h0 : 48 ≤ c.toNat) (v : Nat) : numS (wrap64 (v : Int)) c = wrap64 ((PU.digV v c : Nat) : Int) := by
  unfold numS PU.digV
  rw [if_neg (by omega), wrap_mul_r, wrap_add_l, wrap_sub_l]
  congr 1
  omega
theorem dig_fold (l : List UInt8) : ∀ (v : Nat), (∀ c ∈ l, 48 ≤ c.toNat) → l.foldl numS (wrap64 (v : Int)) = wrap64 ((l.foldl PU.digV v : Nat) : Int) := by
  induction l with
  | nil => intro v _; rw [List.foldl_nil, List.foldl_nil]
  | cons c l ih =>
    intro v h
    have e := dig_step (h c (by simp)) v
    have e2 := ih (PU.digV v c) (fun d hd => h d (by simp [hd]))
    rw [List.foldl_cons, List.foldl_cons, e, e2]
theorem digit_ge : ∀ n : Fin 10, 48 ≤ (UInt8.ofNat (48 + n.val)).toNat := by decide
theorem dec_ge (u : Nat) : ∀ c ∈ Lib.decDigits u, 48 ≤ c.toNat := by
  induction u using Nat.strongRecOn with
  | _ u ih =>
    rw [Lib.decDigits]
    split
    · rename_i h
      intro c hc
      rw [List.mem_singleton.1 hc]
      exact digit_ge ⟨u, h⟩
    · intro c hc
      rcases List.mem_append.1 hc with hc | hc
      · exact ih _ (by omega) c hc
      · rw [List.mem_singleton.1 hc]
        exact digit_ge ⟨u % 10, by omega⟩
theorem num_dec (u : Nat) : numF (Lib.decDigits u) = wrap64 (u : Int) := by
  have := dig_fold (Lib.decDigits u) 0 (dec_ge u)
  rw [PU.dec_val] at this
  have z : wrap64 ((0 : Nat) : Int) = 0 := by unfold wrap64; decide
  rw [z] at this
  unfold numF
  rw [this]
theorem num_itoa {n : Int} (h0 : -9223372036854775808 ≤ n) (h1 : n ≤ 9223372036854775807) : numN (Lib.itoa n) = n := by
  unfold Lib.itoa
  split
  · rename_i hn
    unfold numN
    rw [if_pos (show (45 :: Lib.decDigits n.natAbs).head? = some 45 from rfl)]
    have : numF (45 :: Lib.decDigits n.natAbs) = numF (Lib.decDigits n.natAbs) := by
      unfold numF
      rw [List.foldl_cons]
      rfl
    rw [this, num_dec]
    unfold wrap64
    omega
  · obtain ⟨c, l, e, hc0, hc1⟩ := PU.dec_head n.toNat
    unfold numN
    rw [if_neg (by rw [e]; simp; intro h; rw [h] at hc0; revert hc0; decide), num_dec]
    unfold wrap64
    omega

/-! a quoted text, byte for byte -/
def halfI (c : Nat) : Int := if 48 ≤ c ∧ c ≤ 57 then (c : Int) - 48 else if 97 ≤ c ∧ c ≤ 102 then (c : Int) - 97 + 10 else -1
theorem half_hexU : ∀ n : Fin 16, halfI (hexU n.val).toNat = (n.val : Int) := by decide
/-- what has been told of a quoted text, and what is to come -/
def Quo (l : List UInt8) (o : List UInt8) (q : Nat) : Prop := ∀ t, l = 34 :: (t.flatMap pieceQ ++ [34]) → ∃ r, t = o ++ r ∧ l.drop q = r.flatMap pieceQ ++ [34]
theorem quo_start (l : List UInt8) : Quo l [] 1 := fun t h => ⟨t, rfl, by rw [h]; rfl⟩
theorem quo_end {l o : List UInt8} {q : Nat} (h : Quo l o q) (hq : l.length ≤ q + 1) {t : List UInt8} (e : l = 34 :: (t.flatMap pieceQ ++ [34])) : t = o := by
  obtain ⟨r, hr, hd⟩ := h t e
  cases r with
  | nil => rw [hr, List.append_nil]
  | cons c r =>
    exfalso
    obtain ⟨x, y, e1, _⟩ := PU.piece_cons c
    have := congrArg List.length hd
    rw [List.length_drop, List.flatMap_cons, e1] at this
    simp at this
    omega
/-- the next byte of what is to come -/
theorem quo_next {l o : List UInt8} {q : Nat} (h : Quo l o q) (hq : q + 1 < l.length) {t : List UInt8} (e : l = 34 :: (t.flatMap pieceQ ++ [34])) : ∃ c r, t = o ++ c :: r ∧ l.drop q = pieceQ c ++ (r.flatMap pieceQ ++ [34]) := by
  obtain ⟨r, hr, hd⟩ := h t e
  cases r with
  | nil =>
    exfalso
    have := congrArg List.length hd
    rw [List.length_drop] at this
    simp at this
    omega
  | cons c r => exact ⟨c, r, hr, by rw [hd, List.flatMap_cons, List.append_assoc]⟩
theorem quo_move {l o : List UInt8} {q m : Nat} {d : UInt8} (h : Quo l o q) (hq : q + 1 < l.length) (hm : ∀ c x, l.drop q = pieceQ c ++ x → x ≠ [] → c = d ∧ (pieceQ c).length = m) : Quo l (o ++ [d]) (q + m) := fun t e => by
  obtain ⟨c, r, hr, hd⟩ := quo_next h hq e
  obtain ⟨rfl, hl⟩ := hm c _ hd (by simp)
  refine ⟨r, by rw [hr]; simp, ?_⟩
  rw [← List.drop_drop, hd, ← hl, List.drop_left]
theorem drop_two {l : List UInt8} {q : Nat} (hq : q + 1 < l.length) : l.drop q = l[q] :: l[q + 1] :: l.drop (q + 2) := by
  rw [List.drop_eq_getElem_cons (by omega), List.drop_eq_getElem_cons (by omega)]
theorem quo_plain {l o : List UInt8} {q : Nat} (h : Quo l o q) (hq : q + 1 < l.length) (h92 : l[q].toNat ≠ 92) : Quo l (o ++ [l[q]]) (q + 1) :=
  quo_move h hq fun c x hd _ => by
    rw [drop_two hq] at hd
    rcases PU.piece_cases c with ⟨_, e⟩ | ⟨_, e⟩ | ⟨_, e⟩ | ⟨_, e⟩ <;> rw [e] at hd ⊢ <;> simp only [List.cons_append, List.nil_append, List.cons.injEq] at hd
    · exact absurd (by rw [hd.1]; rfl) h92
    · exact absurd (by rw [hd.1]; rfl) h92
    · exact ⟨hd.1.symm, rfl⟩
    · exact absurd (by rw [hd.1]; rfl) h92
theorem quo_nl {l o : List UInt8} {q : Nat} (h : Quo l o q) (hq : q + 1 < l.length) (h92 : l[q].toNat = 92) (h110 : l[q + 1].toNat = 110) : Quo l (o ++ [10]) (q + 2) :=
  quo_move h hq fun c x hd _ => by
    rw [drop_two hq] at hd
    rcases PU.piece_cases c with ⟨hc, e⟩ | ⟨hc, e⟩ | ⟨hc, e⟩ | ⟨hc, e⟩ <;> rw [e] at hd ⊢ <;> simp only [List.cons_append, List.nil_append, List.cons.injEq] at hd
    · exact ⟨UInt8.toNat_inj.1 hc, rfl⟩
    · rw [hd.2.1] at h110; omega
    · rw [hd.1] at h92; exact absurd h92 hc.2
    · rw [hd.2.1] at h110; exact absurd h110 (by decide)
theorem quo_self {l o : List UInt8} {q : Nat} (h : Quo l o q) (hq : q + 1 < l.length) (h92 : l[q].toNat = 92) (h110 : l[q + 1].toNat ≠ 110) (h120 : q + 3 < l.length → l[q + 1].toNat ≠ 120) : Quo l (o ++ [l[q + 1]]) (q + 2) :=
  quo_move h hq fun c x hd hx => by
    have hlen := congrArg List.length hd
    rw [List.length_drop, List.length_append] at hlen
    rw [drop_two hq] at hd
    rcases PU.piece_cases c with ⟨hc, e⟩ | ⟨hc, e⟩ | ⟨hc, e⟩ | ⟨hc, e⟩ <;> rw [e] at hd hlen ⊢ <;> simp only [List.cons_append, List.nil_append, List.cons.injEq] at hd
    · exact absurd (by rw [hd.2.1]; rfl) h110
    · exact ⟨hd.2.1.symm, rfl⟩
    · rw [hd.1] at h92; exact absurd h92 hc.2
    · simp only [List.length_cons, List.length_nil] at hlen
      have : 0 < x.length := List.length_pos_iff.mpr hx
      exact absurd (by rw [hd.2.1]; rfl) (h120 (by omega))
theorem quo_hex {l o : List UInt8} {q : Nat} (h : Quo l o q) (hq : q + 3 < l.length) (h92 : l[q].toNat = 92) (h120 : l[q + 1].toNat = 120) (d : UInt8) (hd : (d.toNat : Int) = (16 * halfI l[q + 2].toNat + halfI l[q + 3].toNat) % 256) : Quo l (o ++ [d]) (q + 4) :=
  quo_move h (by omega) fun c x hx _ => by
    rw [drop_two (by omega), drop_two (l := l) (q := q + 2) (by omega)] at hx
    have hc8 := c.toNat_lt
    rcases PU.piece_cases c with ⟨hc, e⟩ | ⟨hc, e⟩ | ⟨hc, e⟩ | ⟨hc, e⟩ <;> rw [e] at hx ⊢ <;> simp only [List.cons_append, List.nil_append, List.cons.injEq] at hx
    · rw [hx.2.1] at h120; exact absurd h120 (by decide)
    · rw [hx.2.1] at h120; omega
    · rw [hx.1] at h92; exact absurd h92 hc.2
    · refine ⟨?_, rfl⟩
      have h1 := half_hexU ⟨c.toNat / 16, by omega⟩
      have h2 := half_hexU ⟨c.toNat % 16, by omega⟩
      simp only at h1 h2
      rw [hx.2.2.1, hx.2.2.2.1, h1, h2] at hd
      apply UInt8.toNat_inj.1
      omega
end Go.Proofs.YtjemaijokgcjnaaDoor
