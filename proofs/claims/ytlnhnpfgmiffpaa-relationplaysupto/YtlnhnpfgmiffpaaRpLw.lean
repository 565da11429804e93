import Derived.Test.YtlnhnpfgmiffpaaRpRo
import Derived.Test.YtlnhnpfgmiffpaaRpNw
namespace Go.Proofs.Ytlnhnpfgmiffpaa
open Go.RowKit Go.Maps Go.Shelf
set_option linter.unusedVariables false
set_option linter.unusedSimpArgs false
section
variable {w w' : World} {b o : Nat} {ty : TypeId} {l : List Value} {pT pR kv : Value} {f t : Int} {rows : List (List Int)} {n : Nat} {gn : Int} {E K : Nat → Prop} {e : Ending}
/-- every call on a pair -/
theorem does_all (h : St w b ty l o pT pR kv f t rows n gn E K) (hlen : rows.length ≤ 50000000) (hgn : 0 ≤ gn ∧ gn ≤ 1000000000) (on k nn m : Int) (M : Nat) (hM : M < 4294967296) (r : List Int) (hr : RowOk r) :
    Calls Try.prog 8 #[.pointer (some ⟨b, o, none⟩), .agg (opL on k nn m (M : Int) r).toArray] w (Dp w b ty l o pT pR rows n gn E K) := by
  by_cases h1 : k = 1
  · subst h1; exact does_add h hlen on nn m _ r hr
  by_cases h2 : k = 2
  · subst h2; exact (does_2 h.bx (by omega) on nn m _ r hr).mono fun e w' hp => dp_below h hp
  by_cases h3 : k = 3
  · subst h3; exact (does_3 h.bx (by omega) on nn m _ r).mono fun e w' hp => dp_below h hp
  by_cases h4 : k = 4
  · subst h4; exact does_rem h hlen hgn on nn m _ r hr
  by_cases h5 : k = 5
  · subst h5; exact (does_5 h.bx (by omega) on nn m M hM r hr).mono fun e w' hp => dp_below h hp
  have hb := belowA (w := w) (.cells (opL on k nn m (M : Int) r).toArray 42)
  have hB := h.keep hb
  by_cases h13 : k = 13
  · subst h13
    exact does_13 on nn m _ r hr.len ((room_x hB hlen on 13 nn m _ r hr).mono fun e w' hp => ⟨hp.1, ((dp_below hB hp).after hb).2⟩)
  refine does_ask on k nn m _ r hr.len h1 h2 h3 h4 h5 h13 ?_
  have fin : ∀ {e : Ending} {w' : World}, e = .returned (.bool true) ∧ Below (w.alloc (.cells (opL on k nn m (M : Int) r).toArray 42)).heap.size (w.alloc (.cells (opL on k nn m (M : Int) r).toArray 42)) w' → Dp w b ty l o pT pR rows n gn E K e w' := fun hp => (dp_below hB hp).after hb
  by_cases h6 : k = 6
  · subst h6; exact (asks_6 hB.bx (by omega) on nn m _ r).mono fun e w' hp => fin hp
  by_cases h7 : k = 7
  · subst h7
    refine (asks_7 hB on nn m _ r).mono fun e w' hp => ?_
    obtain ⟨he, hs, l', kv', K', h8, h9, h10, h11⟩ := hp
    have hz := hb.size
    exact ⟨he, l', kv', nn, m, rows, gn, E, K', h8, h9, h10, by omega, .inl rfl, fun k hk => .inl hk, fun k hk => .inr (by have := h11 k hk; omega), (BK.Tch.of_below hb).trans ⟨hs.os, hs.tape, hs.output, hs.size, fun g hg hn => hs.block g hg (fun e => hn (.inr e))⟩⟩
  by_cases h8 : k = 8
  · subst h8; exact (asks_8 hB (by omega) on nn m _ r).mono fun e w' hp => fin hp
  by_cases h9 : k = 9
  · subst h9
    exact (asks_9 on nn m _ r hr.len ((amid_any (hB.keep (belowA (w := _) (.cells (opL on 9 nn m (M : Int) r).toArray 42))) hlen hgn on 9 nn m _ r hr).mono fun e w' hp => ⟨hp.1, (hp.after ((belowA _))).2⟩)).mono fun e w' hp => Dp.after hb hp
  by_cases h10 : k = 10
  · subst h10; exact (asks_10 hB.bx (by omega) on nn m _ r).mono fun e w' hp => fin hp
  by_cases h12 : k = 12
  · subst h12; exact (asks_12 hB.bx on nn m _ r).mono fun e w' hp => fin hp
  exact (asks_other _ b o on k nn m _ r h6 h7 h8 h9 h10 h12).mono fun e w' hp => fin hp
end
/-- a pair of the law's two, in block L from o on -/
def Sp (W : World) (L : Nat) (l : List Value) (o N B : Nat) (pT pR : Value) (rows : List (List Int)) (E K : Nat → Prop) : Prop :=
  ∃ kv f t n gn, St W L 30 l o pT pR kv f t rows n gn E K ∧ rows.length ≤ N ∧ 0 ≤ gn ∧ gn ≤ (N : Int) ∧ (∀ k, E k → B ≤ k) ∧ (∀ k, K k → B ≤ k)
/-- the law's two pairs: A at o, the other at o' -/
structure Tw (w W : World) (L : Nat) (l : List Value) (o o' N : Nat) (pT pR qT qR : Value) (rows rows' : List (List Int)) (E K E' K' : Nat → Prop) : Prop where
  a : Sp W L l o N w.heap.size pT pR rows E K
  b : Sp W L l o' N w.heap.size qT qR rows' E' K'
  ee : ∀ k, E k → ¬ E' k
  ek : ∀ k, E k → ¬ K' k
  ke : ∀ k, K k → ¬ E' k
  bel : Below w.heap.size w W
  lo : w.heap.size ≤ L
section
variable {w W W' : World} {L o o' N : Nat} {l : List Value} {pT pR qT qR : Value} {rows rows' : List (List Int)} {E K E' K' : Nat → Prop}
theorem Sp.keep {B : Nat} (h : Sp W L l o N B pT pR rows E K) (hb : Below W.heap.size W W') : Sp W' L l o N B pT pR rows E K := by
  obtain ⟨kv, f, t, n, gn, h1, h2⟩ := h
  exact ⟨kv, f, t, n, gn, h1.keep hb, h2⟩
theorem Tw.keep (h : Tw w W L l o o' N pT pR qT qR rows rows' E K E' K') (hb : Below W.heap.size W W') : Tw w W' L l o o' N pT pR qT qR rows rows' E K E' K' :=
  ⟨h.a.keep hb, h.b.keep hb, h.ee, h.ek, h.ke, h.bel.trans (hb.mono h.bel.size), h.lo⟩
theorem Tw.swap (h : Tw w W L l o o' N pT pR qT qR rows rows' E K E' K') : Tw w W L l o' o N qT qR pT pR rows' rows E' K' E K :=
  ⟨h.b, h.a, fun k h1 h2 => h.ee k h2 h1, fun k h1 h2 => h.ke k h2 h1, fun k h1 h2 => h.ek k h2 h1, h.bel, h.lo⟩
theorem Sp.pa {B : Nat} (h : Sp W L l o N B pT pR rows E K) : ∃ n gn, Pa W pT pR rows n gn E := let ⟨_, _, _, n, gn, h1, _⟩ := h; ⟨n, gn, h1.pa⟩
theorem Sp.bx {B : Nat} (h : Sp W L l o N B pT pR rows E K) : ∃ n gn, Bx W L o pT pR rows n gn E := let ⟨_, _, _, n, gn, h1, _⟩ := h; ⟨n, gn, h1.bx⟩
theorem Sp.cT {B : Nat} (h : Sp W L l o N B pT pR rows E K) : W.cell? ⟨L, o, none⟩ = some pT := let ⟨_, _, h1⟩ := h.bx; h1.cT
theorem Sp.cR {B : Nat} (h : Sp W L l o N B pT pR rows E K) : W.cell? ⟨L, o + 1, none⟩ = some pR := let ⟨_, _, h1⟩ := h.bx; h1.cR
theorem Sp.len {B : Nat} (h : Sp W L l o N B pT pR rows E K) : rows.length ≤ N := let ⟨_, _, _, _, _, _, h2, _⟩ := h; h2
/-- a call on one of the two -/
theorem tw_does (h : Tw w W L l o o' N pT pR qT qR rows rows' E K E' K') (ho : o + 5 ≤ o' ∨ o' + 5 ≤ o) (hN : N ≤ 2000000) (on k nn m : Int) (M : Nat) (hM : M < 4294967296) (r : List Int) (hr : RowOk r) :
    Calls Try.prog 8 #[.pointer (some ⟨L, o, none⟩), .agg (opL on k nn m (M : Int) r).toArray] W fun e W' => e = .returned (.bool true) ∧ ∃ l' rows2 E2 K2, Tw w W' L l' o o' (N + 1) pT pR qT qR rows2 rows' E2 K2 E' K' := by
  obtain ⟨kv, f, t, n, gn, h1, h2, h3, h4, h5, h6⟩ := h.a
  obtain ⟨kv', f', t', n', gn', g1, g2, g3, g4, g5, g6⟩ := h.b
  refine (does_all h1 (by omega) ⟨h3, by omega⟩ on k nn m M hM r hr).mono fun e W' hp => ?_
  obtain ⟨he, l2, kv2, f2, t2, rows2, gn2, E2, K2, s1, s2, s3, s4, s5, s6, s7, s8⟩ := hp
  have hbz := h.bel.size
  have hsz := s8.size
  have hLW := World.rowIs.lt g1.rl
  have hl2 : ∀ j, j < 5 → l2[o' + j]? = l[o' + j]? := fun j hj => s2 (o' + j) (by omega)
  have nE : ∀ k, E' k → W'.heap[k]? = W.heap[k]? := fun k hk => s8.block k (g1.pa.lt hk) (by
    rintro (e | e)
    · exact h.ee k e hk
    · exact g1.nb.1 (e ▸ hk))
  have nK : ∀ k, K' k → W'.heap[k]? = W.heap[k]? := fun k hk => s8.block k (g1.kp.lt hk) (by
    rintro (e | e)
    · exact h.ek k e hk
    · exact g1.nb.2 (e ▸ hk))
  have sB : St W' L 30 l2 o' qT qR kv' f' t' rows' n' gn' E' K' :=
    ⟨s1.rl, (hl2 0 (by omega)).trans g1.i0, (hl2 1 (by omega)).trans g1.i1, (hl2 2 (by omega)).trans g1.i2, (hl2 3 (by omega)).trans g1.i3, (hl2 4 (by omega)).trans g1.i4, g1.pa.blocks nE, g1.kp.blocks hsz nK, g1.dj, g1.nb⟩
  refine ⟨he, l2, rows2, E2, K2, ⟨kv2, f2, t2, n, gn2, s1, by omega, by omega, by omega, fun k hk => (s6 k hk).elim (h5 k) (fun e => by omega), fun k hk => (s7 k hk).elim (h6 k) (fun e => by omega)⟩, ⟨kv', f', t', n', gn', sB, by omega, g3, by omega, g5, g6⟩, fun k hk hk' => ?_, fun k hk hk' => ?_, fun k hk hk' => ?_, ?_, h.lo⟩
  · rcases s6 k hk with e | e
    · exact h.ee k e hk'
    · have := g1.pa.lt hk'; omega
  · rcases s6 k hk with e | e
    · exact h.ek k e hk'
    · have := g1.kp.lt hk'; omega
  · rcases s7 k hk with e | e
    · exact h.ke k e hk'
    · have := g1.pa.lt hk'; omega
  · refine h.bel.trans (s8.below hbz (fun g hg e => ?_))
    rcases e with e | e
    · have := h5 g e; omega
    · have := h.lo; omega
end
end Go.Proofs.Ytlnhnpfgmiffpaa
