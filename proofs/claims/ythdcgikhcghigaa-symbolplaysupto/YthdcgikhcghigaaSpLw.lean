import Derived.Test.YthdcgikhcghigaaSpAm
namespace Go.Proofs.Ythdcgikhcghigaa
open Go.RowKit Go.Maps Go.Shelf
set_option linter.unusedVariables false
set_option linter.unusedSimpArgs false

/-- what a call on a pair leaves -/
def Dp (w : World) (b : Nat) (ty : TypeId) (l : List Value) (o : Nat) (pT pR : Value) (mo : Option Int) (mb : Nat) (vs : List V) (E K : Nat → Prop) (w' : World) : Prop :=
  ∃ l' kv' vs' E' K', St w' b ty l' o pT pR kv' mo mb vs' E' K' ∧ (∀ j, j < o ∨ o + 3 ≤ j → l'[j]? = l[j]?) ∧ l'.length = l.length ∧ vs'.length ≤ vs.length + 49 ∧ (∀ k, E' k → E k ∨ w.heap.size ≤ k) ∧ (∀ k, K' k → K k ∨ w.heap.size ≤ k) ∧ Tc (fun k => E k ∨ k = b) w w'
section
variable {w w' : World} {b o : Nat} {ty : TypeId} {l : List Value} {pT pR kv : Value} {mo : Option Int} {mb : Nat} {vs : List V} {E K : Nat → Prop}
theorem dp_below (h : St w b ty l o pT pR kv mo mb vs E K) (hp : Below w.heap.size w w') : Dp w b ty l o pT pR mo mb vs E K w' :=
  ⟨l, kv, vs, E, K, h.keep hp, fun _ _ => rfl, rfl, by omega, fun k hk => .inl hk, fun k hk => .inl hk, Tc.of hp⟩
theorem dp_gs {vs' : List V} {E' : Nat → Prop} (h : St w b ty l o pT pR kv mo mb vs E K) (hp : Pa w' pT pR mo mb vs' vs' E') (hg : Gs E E' w w') (hl : vs'.length ≤ vs.length + 49) : Dp w b ty l o pT pR mo mb vs E K w' :=
  ⟨l, kv, vs', E', K, h.step hp hg, fun _ _ => rfl, rfl, hl, hg.2, fun k hk => .inl hk, hg.1.mono (fun _ _ e => .inl e)⟩
theorem Dp.after {W : World} (hb : Below w.heap.size w W) (h : Dp W b ty l o pT pR mo mb vs E K w') : Dp w b ty l o pT pR mo mb vs E K w' := by
  obtain ⟨l', kv', vs', E', K', h1, h2, h3, h4, h5, h6, h7⟩ := h
  have hz := hb.size
  exact ⟨l', kv', vs', E', K', h1, h2, h3, h4, fun k hk => (h5 k hk).imp id (fun e => by omega), fun k hk => (h6 k hk).imp id (fun e => by omega), (Tc.of (E := fun k => E k ∨ k = b) hb).trans h7 (fun _ _ e => e)⟩
theorem does_all (h : St w b ty l o pT pR kv mo mb vs E K) (hlen : vs.length ≤ 500000000) (on k n m : Int) (v : V) (hv : v.wf) (la : Option Addr) (lc : Nat) (us : List V) (r : List Int) (hr : Row24 r) (hlv : Lv w (.slice la us.length lc) us) (hle : Apt E la us.length) (hul : us.length ≤ 1048576) :
    Calls Try.prog 6 #[.pointer (some ⟨b, o, none⟩), .agg (opL on k n m v (.slice la us.length lc) r).toArray] w fun e w' => e = .returned (.bool true) ∧ Dp w b ty l o pT pR mo mb vs E K w' := by
  have hb := belowA (w := w) (.cells (opL on k n m v (.slice la us.length lc) r).toArray 45)
  have hB := h.keep hb
  have rows : k ≠ 6 → Calls Try.prog 19 #[.pointer (some ⟨b, o, none⟩), .agg (opL on k n m v (.slice la us.length lc) r).toArray] (w.alloc (.cells (opL on k n m v (.slice la us.length lc) r).toArray 45)) fun e w' => e = .returned (.bool true) ∧ Dp w b ty l o pT pR mo mb vs E K w' := fun hk =>
    (rows_list hB.bx hB.pa hB.nb.1 (by omega) on k n m v la lc us r hk (hlv.below hb) hle hul).mono fun e w' hp => by
      obtain ⟨he, vs', E', h1, h2, h3⟩ := hp
      exact ⟨he, (dp_gs hB h1 h2 (by omega)).after hb⟩
  by_cases h1 : k = 1
  · subst h1
    exact (does_1 h.bx h.pa h.nb.1 (by omega) on n m v hv _ r).mono fun e w' hp => by
      obtain ⟨he, E', h1, h2⟩ := hp
      exact ⟨he, dp_gs h h1 h2 (by have := adV_len mo vs v; omega)⟩
  by_cases h2 : k = 2
  · subst h2
    exact (does_2 h.bx h.pa (by omega) on n m v hv _ r).mono fun e w' hp => ⟨hp.1, dp_below h hp.2⟩
  by_cases h3 : k = 3
  · subst h3
    exact (does_3 h.bx h.pa (by omega) on n m v _ r).mono fun e w' hp => ⟨hp.1, dp_below h hp.2⟩
  by_cases h4 : k = 4
  · subst h4
    exact does_rows4 on n m v _ r hr.len (rows (by decide))
  by_cases h5 : k = 5
  · subst h5
    exact does_rows5 on n m v _ r hr.len (rows (by decide))
  by_cases h6 : k = 6
  · subst h6
    exact does_rows6 on n m v _ r hr.len ((rows_tuple hB.bx hB.pa (by omega) on n m v _ r hr).mono fun e w' hp => ⟨hp.1, (dp_below hB hp.2).after hb⟩)
  refine does_ask on k n m v _ r hr.len h1 h2 h3 h4 h5 h6 ?_
  by_cases h7 : k = 7
  · subst h7
    exact (asks_7 hB.bx hB.pa hB.nb.1 on n m v _ r).mono fun e w' hp => by
      obtain ⟨he, E', h1, h2⟩ := hp
      exact ⟨he, (dp_gs hB h1 h2 (by have := ctV_len mo vs n; omega)).after hb⟩
  by_cases h8 : k = 8
  · subst h8
    exact (asks_8 hB.bx hB.pa (by omega) on n m v _ r).mono fun e w' hp => ⟨hp.1, (dp_below hB hp.2).after hb⟩
  by_cases h9 : k = 9
  · subst h9
    exact (asks_9 hB on n m v _ r).mono fun e w' hp => by
      obtain ⟨he, ht, l', kv', K', h1, h2, h3, h4⟩ := hp
      exact ⟨he, Dp.after hb ⟨l', kv', vs, E, K', h1, h2, h3, by omega, fun k hk => .inl hk, fun k hk => .inr (h4 k hk), ht.mono (fun _ _ e => .inr e)⟩⟩
  by_cases h10 : k = 10
  · subst h10
    exact (asks_10 hB (by omega) on n m v _ r).mono fun e w' hp => ⟨hp.1, (dp_below hB hp.2).after hb⟩
  by_cases h11 : k = 11
  · subst h11
    have hb2 := belowA (w := w.alloc (.cells (opL on 11 n m v (.slice la us.length lc) r).toArray 45)) (.cells (opL on 11 n m v (.slice la us.length lc) r).toArray 45)
    have hB2 := hB.keep hb2
    refine asks_11 on n m v _ r hr.len ?_
    exact (amid_pa hB2.bx hB2.pa hB2.nb.1 hB2.ml (by omega) on 11 n m v hv la lc us r ((hlv.below hb).below hb2) hle hul).mono fun e w' hp => by
      obtain ⟨he, vs', E', h1, h2, h3⟩ := hp
      exact ⟨he, ((dp_gs hB2 h1 h2 h3).after hb2).after hb⟩
  exact (asks_other b o _ on k n m v _ r h7 h8 h9 h10 h11).mono fun e w' hp => ⟨hp.1, (dp_below hB hp.2).after hb⟩
end
/-- a pair of the law's two, in block L from o on -/
def Sp (W : World) (L : Nat) (l : List Value) (o N B : Nat) (pT pR : Value) (vs : List V) (E K : Nat → Prop) : Prop :=
  ∃ kv mo mb, St W L 30 l o pT pR kv mo mb vs E K ∧ vs.length ≤ N ∧ (∀ k, E k → B ≤ k) ∧ (∀ k, K k → B ≤ k)
/-- the law's two pairs: A at o, the other at o' -/
structure Tw (w W : World) (L : Nat) (l : List Value) (o o' N : Nat) (pT pR qT qR : Value) (vs vs' : List V) (E K E' K' : Nat → Prop) : Prop where
  a : Sp W L l o N w.heap.size pT pR vs E K
  b : Sp W L l o' N w.heap.size qT qR vs' E' K'
  ee : ∀ k, E k → ¬ E' k
  ek : ∀ k, E k → ¬ K' k
  ke : ∀ k, K k → ¬ E' k
  bel : Below w.heap.size w W
  lo : w.heap.size ≤ L
section
variable {w W W' : World} {L o o' N : Nat} {l : List Value} {pT pR qT qR : Value} {vs vs' : List V} {E K E' K' : Nat → Prop}
theorem Sp.keep {B : Nat} (h : Sp W L l o N B pT pR vs E K) (hb : Below W.heap.size W W') : Sp W' L l o N B pT pR vs E K := by
  obtain ⟨kv, mo, mb, h1, h2⟩ := h
  exact ⟨kv, mo, mb, h1.keep hb, h2⟩
theorem Tw.keep (h : Tw w W L l o o' N pT pR qT qR vs vs' E K E' K') (hb : Below W.heap.size W W') : Tw w W' L l o o' N pT pR qT qR vs vs' E K E' K' :=
  ⟨h.a.keep hb, h.b.keep hb, h.ee, h.ek, h.ke, h.bel.trans (hb.mono h.bel.size), h.lo⟩
theorem Tw.swap (h : Tw w W L l o o' N pT pR qT qR vs vs' E K E' K') : Tw w W L l o' o N qT qR pT pR vs' vs E' K' E K :=
  ⟨h.b, h.a, fun k h1 h2 => h.ee k h2 h1, fun k h1 h2 => h.ke k h2 h1, fun k h1 h2 => h.ek k h2 h1, h.bel, h.lo⟩
theorem Sp.pa {B : Nat} (h : Sp W L l o N B pT pR vs E K) : ∃ mo mb, Pa W pT pR mo mb vs vs E := let ⟨_, mo, mb, h1, _⟩ := h; ⟨mo, mb, h1.pa⟩
theorem Sp.bx {B : Nat} (h : Sp W L l o N B pT pR vs E K) : Bx W L o pT pR := let ⟨_, mo, mb, h1, _⟩ := h; h1.bx
theorem Sp.len {B : Nat} (h : Sp W L l o N B pT pR vs E K) : vs.length ≤ N := let ⟨_, _, _, _, h2, _⟩ := h; h2
/-- a call on one of the two -/
theorem tw_does (h : Tw w W L l o o' N pT pR qT qR vs vs' E K E' K') (ho : o + 3 ≤ o' ∨ o' + 3 ≤ o) (hN : N ≤ 400000000) (on k n m : Int) (v : V) (hv : v.wf) (la : Option Addr) (lc : Nat) (us : List V) (r : List Int) (hr : Row24 r) (hlv : Lv w (.slice la us.length lc) us) (hul : us.length ≤ 1048576) :
    Calls Try.prog 6 #[.pointer (some ⟨L, o, none⟩), .agg (opL on k n m v (.slice la us.length lc) r).toArray] W fun e W' => e = .returned (.bool true) ∧ ∃ l' vs2 E2 K2, Tw w W' L l' o o' (N + 49) pT pR qT qR vs2 vs' E2 K2 E' K' := by
  obtain ⟨kv, mo, mb, h1, h2, h5, h6⟩ := h.a
  obtain ⟨kv', mo', mb', g1, g2, g5, g6⟩ := h.b
  have hle : Apt E la us.length := fun h0 g off e hE => by
    obtain ⟨g', off', e', hg', _⟩ := hlv.at (i := 0) h0
    rw [e] at e'
    cases e'
    have := h5 g hE
    omega
  refine (does_all h1 (by omega) on k n m v hv la lc us r hr (hlv.below h.bel) hle hul).mono fun e W' hp => ?_
  obtain ⟨he, l2, kv2, vs2, E2, K2, s1, s2, s3, s4, s6, s7, s8⟩ := hp
  have hbz := h.bel.size
  have hsz := s8.size
  have hLW := World.rowIs.lt g1.rl
  have hl2 : ∀ j, j < 3 → l2[o' + j]? = l[o' + j]? := fun j hj => s2 (o' + j) (by omega)
  have nE : ∀ k, E' k → W'.heap[k]? = W.heap[k]? := fun k hk => s8.block k (g1.pa.lt hk) (by
    rintro (e | e)
    · exact h.ee k e hk
    · exact g1.nb.1 (e ▸ hk))
  have nK : ∀ k, K' k → W'.heap[k]? = W.heap[k]? := fun k hk => s8.block k (g1.kp.lt hk) (by
    rintro (e | e)
    · exact h.ek k e hk
    · exact g1.nb.2 (e ▸ hk))
  have sB : St W' L 30 l2 o' qT qR kv' mo' mb' vs' E' K' :=
    ⟨s1.rl, (hl2 0 (by omega)).trans g1.i0, (hl2 1 (by omega)).trans g1.i1, (hl2 2 (by omega)).trans g1.i2, g1.pa.blocks nE, g1.kp.blocks hsz nK, g1.dj, g1.nb, Nat.lt_of_lt_of_le g1.ml hsz⟩
  refine ⟨he, l2, vs2, E2, K2, ⟨kv2, mo, mb, s1, by omega, fun k hk => (s6 k hk).elim (h5 k) (fun e => by omega), fun k hk => (s7 k hk).elim (h6 k) (fun e => by omega)⟩, ⟨kv', mo', mb', sB, by omega, g5, g6⟩, fun k hk hk' => ?_, fun k hk hk' => ?_, fun k hk hk' => ?_, ?_, h.lo⟩
  · rcases s6 k hk with e | e
    · exact h.ee k e hk'
    · have := g1.pa.lt hk'; omega
  · rcases s6 k hk with e | e
    · exact h.ek k e hk'
    · have := g1.kp.lt hk'; omega
  · rcases s7 k hk with e | e
    · exact h.ke k e hk'
    · have := g1.pa.lt hk'; omega
  · refine h.bel.trans (s8.below hbz (fun g hg e => ?_))
    rcases e with e | e
    · have := h5 g e; omega
    · have := h.lo; omega
end
end Go.Proofs.Ythdcgikhcghigaa
