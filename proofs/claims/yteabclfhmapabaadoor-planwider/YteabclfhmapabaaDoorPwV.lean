import Derived.Test.YteabclfhmapabaaDoorPwR
namespace Go.Proofs.YteabclfhmapabaaDoor
open Go.RowKit Go.Maps Go.Shelf
set_option linter.unusedVariables false
set_option linter.unusedSimpArgs false

theorem makeW_any (d : Nat) (r : R3) (p : RP) (w : World) (hKT : KT w) (hDT : DT w) (hR : RIs w (d + 1) r p) (hs : smallR (d + 1) r) (hT : (termsR (d + 1) r).length ≤ 1048576) {v : Value} {l : List ByteArray} (hl : Ls w v l.length (l.flatMap strB)) (hsz : ∀ i, i < l.length → (atS l i).size ≤ maxLen) (first : Int) :
    Calls Tryd.prog 6 #[r.val p, v, .int .i64 first] w fun e w' => Below w.heap.size w w' ∧ ∃ (pr : ByteArray) (ra : Option Addr) (rn rc : Nat) (ba : Option Addr) (bn bc : Nat) (sa : Option Addr) (sn sc : Nat) (er : Int),
      e = .returned (.tuple #[.agg #[.string pr, .slice ra rn rc, .slice ba bn bc, .slice sa sn sc], .int .i64 er]) ∧ MkC d r l first w' pr ra rn rc ba bn bc sa sn sc er ∧ (er = 0 → first = -1 ∨ isAtM r.bd (2 ^ r.bd.length - 1) first = true) := by
  refine (make_any d r p w hKT hDT hR hs hT hl hsz first).mono ?_
  rintro e w' ⟨hb, h⟩
  refine ⟨hb, ?_⟩
  rcases h with ⟨h1, rfl⟩ | ⟨h1, h2, rfl⟩ | ⟨h1, h2, fs, hlk, ⟨h3, rfl⟩ | ⟨h3, ⟨h4, h5, rfl⟩ | ⟨hf, y, q, xs, a, c, rfl, hy, hri, hgt, hlz⟩⟩⟩
  · exact ⟨⟨#[]⟩, none, 0, 0, none, 0, 0, none, 0, 0, 40, rfl, .inl ⟨rfl, h1⟩, fun h => by cases h⟩
  · exact ⟨⟨#[]⟩, none, 0, 0, none, 0, 0, none, 0, 0, 1, rfl, .inr (.inl ⟨rfl, h1, h2⟩), fun h => by cases h⟩
  · exact ⟨⟨#[]⟩, none, 0, 0, none, 0, 0, none, 0, 0, 73, rfl, .inr (.inr (.inl ⟨rfl, h1, h2, fs, hlk, h3⟩)), fun h => by cases h⟩
  · exact ⟨⟨#[]⟩, none, 0, 0, none, 0, 0, none, 0, 0, 120, rfl, .inr (.inr (.inr (.inl ⟨rfl, h1, h2, h4, h5⟩))), fun h => by cases h⟩
  · exact ⟨y.pr, q.a, y.hd.length, q.c, q.ba, y.bd.length, q.bc, a, xs.length, c, 0, rfl, .inr (.inr (.inr (.inr ⟨rfl, y, q, xs, rfl, rfl, rfl, rfl, rfl, rfl, rfl, rfl, mkY_of h1 h2 hlk h3 hf hy hri hgt hlz⟩))), fun _ => hf⟩
/-- where the first plan is made, the second is made too, or the names are no variables -/
theorem wide_er {d : Nat} {r : R3} {l : List ByteArray} {more : ByteArray} {first : Int} {u u' : World} {y : R3} {q : RP} {xs : List SX} {sa : Option Addr} {sc : Nat} (hY : MkY d r l first u y q xs sa sc) (hat : first = -1 ∨ isAtM r.bd (2 ^ r.bd.length - 1) first = true) {pr : ByteArray} {ra : Option Addr} {rn rc : Nat} {ba : Option Addr} {bn bc : Nat} {sb : Option Addr} {sn sd : Nat} {er : Int} (h : MkC d r (l ++ [more]) first u' pr ra rn rc ba bn bc sb sn sd er) :
    er = 1 ∨ (er = 0 ∧ ∃ (y2 : R3) (q2 : RP) (ys : List SX), sn = ys.length ∧ MkY d r (l ++ [more]) first u' y2 q2 ys sb sd) := by
  rcases h with ⟨_, h1⟩ | ⟨rfl, _, _⟩ | ⟨_, h1, _, f2, h2, h3⟩ | ⟨_, _, _, h1, h2⟩ | ⟨rfl, y2, q2, ys, _, _, _, _, _, _, _, h8, hY2⟩
  · rw [hY.rb] at h1
    cases h1
  · exact .inl rfl
  · obtain ⟨f1, g1, g2⟩ := hY.lm
    exact absurd (limK_more2 (fun n hn => List.mem_append.2 (.inl hn)) g1 h2 g2) h3
  · rcases hat with h | h
    · exact absurd h h1
    · rw [h2] at h
      cases h
  · exact .inr ⟨rfl, y2, q2, ys, h8, hY2⟩
theorem wide_all {d : Nat} {r : R3} {l : List ByteArray} {more : ByteArray} {first : Int} {u u' : World} {y y2 : R3} {q q2 : RP} {xs ys : List SX} {sa sb : Option Addr} {sc sd : Nat} (hY : MkY d r l first u y q xs sa sc) (hY2 : MkY d r (l ++ [more]) first u' y2 q2 ys sb sd) (hs : ∀ i, i < xs.length → (atZ xs i).s.i = (atZ ys i).s.i) : WdM more xs ys := by
  obtain ⟨s1, h1⟩ := hY.go
  obtain ⟨s2, h2⟩ := hY2.go
  exact wdM_of (litsB_y hY.rb) h1 h2 (hY.len.trans hY2.len.symm) hs
/-- what steps give are names -/
theorem go_names {d : Nat} {l : List XL} {k0 : List ByteArray} {ys : List SX} (hx : l.all (fun y => litB y.x) = true) {r2 : List ByteArray × Nat} (hq : goR d l k0 (2 ^ l.length - 1) (ys.map SX.s) = some r2) : ∀ i, i < ys.length → ∀ n ∈ (atZ ys i).s.g, n ≠ noS := by
  have hb : 2 ^ l.length - 1 < 2 ^ l.length := by have := Nat.two_pow_pos l.length; omega
  have hall : ∀ i, i ≤ ys.length → ∃ tt l2, goR d l k0 (2 ^ l.length - 1) ((ys.take i).map SX.s) = some (tt, l2) ∧ l2 < 2 ^ l.length := by
    intro i
    induction i with
    | zero => exact fun _ => ⟨k0, _, rfl, hb⟩
    | succ i ih =>
      intro hi
      obtain ⟨tt, l2, h, hl⟩ := ih (by omega)
      exact ⟨_, _, goR_goes (by omega) h (goR_prefix hq (by omega) h), Nat.lt_of_le_of_lt (clrN_le _ _) hl⟩
  intro i hi n hn
  obtain ⟨tt, l2, h, hl⟩ := hall i (by omega)
  obtain ⟨a, a1, a2, a3, a4, a5⟩ := okW_out hl (goR_prefix hq hi h)
  have g := stM_gives (d := d) (ss := tt) (k := a) (litB_at hx a2) a4
  have e1 : stM d tt (atL l a).x a = (atZ ys i).s := a5.symm
  rw [e1] at g
  exact (mem_vsT.1 (g.own n hn)).1
theorem rl_only {w : World} {b : Nat} {t : TypeId} {cs : List Value} (h : RL w b t cs) {k : Nat} {x : Value} (hx : w.cell? ⟨b, k, none⟩ = some x) : cs[k]? = some x := by
  by_cases hk : k < cs.length
  · have h1 := RL.at h (j := k) (List.getElem?_eq_getElem hk)
    rw [h1] at hx
    rw [List.getElem?_eq_getElem hk]
    exact hx
  · exfalso
    obtain ⟨c, h1, h2, _⟩ := h
    simp only [World.cell?, h1] at hx
    have h3 := (Array.getElem?_eq_some_iff.1 (by simpa using hx)).1
    omega
theorem cell_same {w w' : World} {g k : Nat} (h : w'.heap[g]? = w.heap[g]?) : w'.cell? ⟨g, k, none⟩ = w.cell? ⟨g, k, none⟩ := by
  simp only [World.cell?, h]
/-- a list whose first cell the box does not have stays where the box is written -/
theorem ls_box {u : World} {b : Nat} (hR : RL u b 30 [.string ⟨#[]⟩, .slice none 0 0, .slice none 0 0, .slice none 0 0]) {v : Value} {n : Nat} {xs : List Value} (h : Ls u v n xs) (hx : 0 < n → ∃ x : Value, xs[0]? = some x ∧ ∀ j : Nat, (([.string ⟨#[]⟩, .slice none 0 0, .slice none 0 0, .slice none 0 0] : List Value)[j]?) ≠ some x) (pr : ByteArray) (ra : Option Addr) (rn rc : Nat) (ba : Option Addr) (bn bc : Nat) (sa : Option Addr) (sn sc : Nat) : Ls (pl4 u b pr ra rn rc ba bn bc sa sn sc) v n xs := by
  obtain ⟨hn, a, c, hv, h1, h2, hc⟩ := h
  refine ⟨hn, a, c, hv, h1, h2, fun h0 => ?_⟩
  obtain ⟨g, off, ha, hg, hf⟩ := hc h0
  obtain ⟨x, hx0, hxn⟩ := hx h0
  have hne : g ≠ b := by
    rintro rfl
    have h3 : 0 < xs.length := (List.getElem?_eq_some_iff.1 hx0).1
    have h4 := hf 0 h3
    have h5 := rl_only hR h4
    rw [List.getElem?_eq_getElem h3] at hx0
    rw [Option.some.inj hx0] at h5
    exact hxn _ h5
  refine ⟨g, off, ha, ?_, fun i hi => ?_⟩
  · have : (pl4 u b pr ra rn rc ba bn bc sa sn sc).heap.size = u.heap.size := by
      unfold pl4
      simp
    rw [this]
    exact hg
  · rw [cell_same (pl4_block u b pr ra rn rc ba bn bc sa sn sc hne)]
    exact hf i hi
theorem lz_box {u : World} {b : Nat} (hR : RL u b 30 [.string ⟨#[]⟩, .slice none 0 0, .slice none 0 0, .slice none 0 0]) {v : Value} {ys : List SX} (h : Lz u v ys) (hn : ∀ i, i < ys.length → ∀ n ∈ (atZ ys i).s.g, n ≠ noS) (pr : ByteArray) (ra : Option Addr) (rn rc : Nat) (ba : Option Addr) (bn bc : Nat) (sa : Option Addr) (sn sc : Nat) : Lz (pl4 u b pr ra rn rc ba bn bc sa sn sc) v ys := by
  refine ⟨ls_box hR h.lies (fun h0 => ?_) _ _ _ _ _ _ _ _ _ _, fun y hy => ls_box hR (h.each y hy) (fun h0 => ?_) _ _ _ _ _ _ _ _ _ _⟩
  · cases ys with
    | nil => cases h0
    | cons y0 yt =>
      refine ⟨.int .i8 y0.s.k, rfl, fun j hj => ?_⟩
      match j with
      | 0 => cases hj
      | 1 => cases hj
      | 2 => cases hj
      | 3 => cases hj
      | j + 4 => cases hj
  · obtain ⟨i, hi, e⟩ := List.getElem_of_mem hy
    have hnm := hn i hi
    rw [atZ_eq hi, e] at hnm
    obtain ⟨⟨k, ii, m, g⟩, a, c⟩ := y
    simp only at h0 hnm ⊢
    cases g with
    | nil => cases h0
    | cons n0 nt =>
      refine ⟨.string n0, rfl, fun j hj => ?_⟩
      match j with
      | 0 =>
        injection hj with hj
        injection hj with hj
        exact hnm n0 List.mem_cons_self hj.symm
      | 1 => cases hj
      | 2 => cases hj
      | 3 => cases hj
      | j + 4 => cases hj
theorem bits_or32W (a b : Nat) (ha : a < 4294967296) (hb : b < 4294967296) : bits .or .u32 (a : Int) (b : Int) = ((a ||| b : Nat) : Int) := by
  have hx : a ||| b < 2 ^ 32 := Nat.or_lt_two_pow (by omega) (by omega)
  have h1 : (BitVec.ofInt 32 (a : Int)).toNat = a := by
    rw [BitVec.ofInt_natCast, BitVec.toNat_ofNat]; exact Nat.mod_eq_of_lt (by omega)
  have h2 : (BitVec.ofInt 32 (b : Int)).toNat = b := by
    rw [BitVec.ofInt_natCast, BitVec.toNat_ofNat]; exact Nat.mod_eq_of_lt (by omega)
  show IntKind.u32.wrap ((BitVec.ofInt 32 (a : Int) ||| BitVec.ofInt 32 (b : Int)).toNat : Int) = _
  rw [BitVec.toNat_or, h1, h2]
  simp only [IntKind.wrap, IntKind.signed, IntKind.bits, Bool.false_and, Bool.false_eq_true, if_false]
  omega
theorem or_mask {a b : Nat} (h : a ||| b = b) (ha : a < 4294967296) (hb : b < 4294967296) : bits .or .u32 (a : Int) (b : Int) = (b : Int) := by
  rw [bits_or32W a b ha hb, h]
end Go.Proofs.YteabclfhmapabaaDoor
