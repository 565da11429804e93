import Derived.Test.YtoppgalbmijhdaaGreatDoorFaFact
import Derived.Test.YtoppgalbmijhdaaGreatDoorColM
namespace Go.Proofs.YtoppgalbmijhdaaGreatDoor
open Go.RowKit Go.Maps
set_option linter.unusedVariables false
set_option linter.unusedSimpArgs false

/-! the order of facts and tuples by their keys; what rises strictly and has the same members is the same -/
def kV (vs : List V) : Nat → Int := fun i => (atV vs i).k
def nV (vs : List V) : Nat → Int := fun i => (atV vs i).n
def sV (vs : List V) : Nat → ByteArray := fun i => (atV vs i).s
theorem sV_len {vs : List V} (h : ∀ x ∈ vs, x.wf) (i : Nat) (hi : i < vs.length) : (sV vs i).size ≤ maxLen := by
  unfold sV
  rw [atV_eq hi]
  exact (h _ (List.getElem_mem hi)).text
theorem lv_lst {w : World} {v : Value} {l : List V} (h : Lv w v l) : AR.Lst w v l.length (kV l) (nV l) (sV l) := by
  have hwf := h.wf
  obtain ⟨a, c, rfl, h1, h2, h3⟩ := h.form
  refine ⟨Nat.le_trans h1 h2, ?_⟩
  by_cases h0 : 0 < l.length
  · obtain ⟨g, off, rfl, hg, hat⟩ := h3 h0
    exact .inr ⟨g, off, c, rfl, h1, h2, ⟨fun _ => hg, fun i hi => (hat i hi).c0, fun i hi => (hat i hi).c1, fun i hi => (hat i hi).c2, fun i hi => sV_len hwf i hi⟩⟩
  · exact .inl ⟨a, c, by rw [show l.length = 0 by omega], by omega⟩
abbrev Key := ByteArray × List V
def XF.key (y : XF) : Key := (y.pr, y.vs)
def fcK (k : Key) : AR.Fc := ⟨k.1, none, k.2.length, 0, kV k.2, nV k.2, sV k.2⟩
def XF.fc (y : XF) : AR.Fc := ⟨y.pr, y.a, y.vs.length, y.c, kV y.vs, nV y.vs, sV y.vs⟩
/-- the order of two keys -/
def ko (k m : Key) : Int := AR.fc (fcK k) (fcK m)
theorem ko_fc (x y : XF) : AR.fc x.fc y.fc = ko x.key y.key := rfl
theorem ko_tc {x y : XF} (hx : x.pr = noS) (hy : y.pr = noS) : AR.tc x.fc y.fc = ko x.key y.key := by
  rw [← ko_fc]
  unfold AR.fc
  have e : Lib.compareBytes x.fc.p.data.toList y.fc.p.data.toList = 0 := by
    show Lib.compareBytes x.pr.data.toList y.pr.data.toList = 0
    rw [hx, hy]
    rfl
  rw [e, AR.orL_zero_left]
theorem ko_anti (k m : Key) : ko m k = - ko k m := AR.fc_anti _ _
theorem ko_O3 (k m n : Key) : AR.O3 (ko k m) (ko m n) (ko k n) := AR.fc_O3 _ _ _
theorem ko_self (k : Key) : ko k k = 0 := by have := ko_anti k k; omega
theorem V_ext {x y : V} (h1 : x.k = y.k) (h2 : x.n = y.n) (h3 : x.s = y.s) : x = y := by
  cases x; cases y; simp only at h1 h2 h3; subst h1 h2 h3; rfl
theorem ko_zero {k m : Key} (h : ko k m = 0) : k = m := by
  have hz := AR.fc_zero (fcK k) (fcK m)
  have h' : AR.fc (fcK k) (fcK m) = 0 := h
  rw [h'] at hz
  have hs : AR.sf (fcK k) (fcK m) = true := hz.symm
  unfold AR.sf at hs
  rw [Bool.and_eq_true] at hs
  have hp : k.1 = m.1 := toList_inj (by simpa [fcK] using hs.1)
  have ht : AR.tc (fcK k) (fcK m) = 0 := by
    have := AR.tc_zero (fcK k) (fcK m)
    rw [hs.2] at this
    simpa using this
  obtain ⟨hl, hv⟩ := (AR.TT_zero _ _ _).1 ht
  have hl : k.2.length = m.2.length := hl
  have hvs : k.2 = m.2 := by
    apply List.ext_getElem hl
    intro i h1 h2
    have hc := hv i h1
    obtain ⟨e1, e2, e3⟩ := AR.cmpV_zero hc
    have e1 : (atV k.2 i).k = (atV m.2 i).k := e1
    have e2 : (atV k.2 i).n = (atV m.2 i).n := e2
    have e3 : (atV k.2 i).s.toList = (atV m.2 i).s.toList := e3
    rw [atV_eq h1, atV_eq h2] at e1 e2 e3
    exact V_ext e1 e2 (toList_inj e3)
  exact Prod.ext hp hvs
def kl (k m : Key) : Prop := ko k m < 0
theorem kl_irrefl (k : Key) : ¬ kl k k := by unfold kl; rw [ko_self]; omega
theorem kl_trans {k m n : Key} (h1 : kl k m) (h2 : kl m n) : kl k n := by
  have h := ko_O3 k m n
  unfold kl at *
  unfold AR.O3 at h
  omega
theorem kl_of {k m : Key} (h : ¬ ko m k < 0) : k = m ∨ kl k m := by
  by_cases h0 : ko k m = 0
  · exact .inl (ko_zero h0)
  · right
    have := ko_anti k m
    unfold kl
    omega
/-- two lists that rise strictly and have the same members are one -/
theorem rises_unique : ∀ l m : List Key, l.Pairwise kl → m.Pairwise kl → (∀ x, x ∈ l ↔ x ∈ m) → l = m
  | [], [], _, _, _ => rfl
  | [], y :: m, _, _, h => absurd ((h y).2 List.mem_cons_self) (by simp)
  | x :: l, [], _, _, h => absurd ((h x).1 List.mem_cons_self) (by simp)
  | x :: l, y :: m, hl, hm, h => by
    obtain ⟨hx, hl'⟩ := List.pairwise_cons.1 hl
    obtain ⟨hy, hm'⟩ := List.pairwise_cons.1 hm
    have hxy : x = y := by
      rcases List.mem_cons.1 ((h x).1 List.mem_cons_self) with e | h1
      · exact e
      · rcases List.mem_cons.1 ((h y).2 List.mem_cons_self) with e | h2
        · exact e.symm
        · exact absurd (kl_trans (hy x h1) (hx y h2)) (kl_irrefl y)
    subst hxy
    rw [rises_unique l m hl' hm' (fun z => ⟨fun hz => ?_, fun hz => ?_⟩)]
    · rcases List.mem_cons.1 ((h z).1 (List.mem_cons_of_mem _ hz)) with e | h1
      · subst e; exact absurd (hx z hz) (kl_irrefl z)
      · exact h1
    · rcases List.mem_cons.1 ((h z).2 (List.mem_cons_of_mem _ hz)) with e | h1
      · subst e; exact absurd (hy z hz) (kl_irrefl z)
      · exact h1
/-- what a call that sorts tells: rises strictly, and is what was given -/
structure Told (ks out : List Key) : Prop where
  rises : out.Pairwise kl
  same : ∀ k, k ∈ out ↔ k ∈ ks
theorem Told.eq {ks out out' : List Key} (h : Told ks out) (h' : Told ks out') : out = out' := rises_unique _ _ h.rises h'.rises (fun x => (h.same x).trans (h'.same x).symm)
theorem Told.nil : Told [] [] := ⟨List.Pairwise.nil, fun k => Iff.rfl⟩
theorem Told.one (k : Key) : Told [k] [k] := ⟨List.pairwise_singleton _ _, fun _ => Iff.rfl⟩
/-- amid the loop over what was sorted: the last one is the greatest -/
structure Amid (ks out : List Key) (last : Key) : Prop where
  told : Told ks out
  most : ∀ k ∈ out, k = last ∨ kl k last
theorem Amid.first (k : Key) : Amid [k] [k] k := ⟨Told.one k, fun x hx => .inl (List.mem_singleton.1 hx)⟩
theorem Amid.again {ks out : List Key} {last : Key} (h : Amid ks out last) (hl : last ∈ ks) : Amid (ks ++ [last]) out last :=
  ⟨⟨h.told.rises, fun k => by rw [h.told.same, List.mem_append, List.mem_singleton]; exact ⟨.inl, fun e => e.elim id (fun e => e ▸ hl)⟩⟩, h.most⟩
theorem Amid.next {ks out : List Key} {last : Key} (h : Amid ks out last) {x : Key} (hx : kl last x) : Amid (ks ++ [x]) (out ++ [x]) x := by
  have hall : ∀ k ∈ out, kl k x := fun k hk => by
    rcases h.most k hk with e | e
    · rw [e]; exact hx
    · exact kl_trans e hx
  refine ⟨⟨List.pairwise_append.2 ⟨h.told.rises, List.pairwise_singleton _ _, fun k hk y hy => ?_⟩, fun k => ?_⟩, fun k hk => ?_⟩
  · rw [List.mem_singleton.1 hy]; exact hall k hk
  · rw [List.mem_append, List.mem_append, h.told.same]
  · rcases List.mem_append.1 hk with hk | hk
    · exact .inr (hall k hk)
    · exact .inl (List.mem_singleton.1 hk)
/-- amid a merge: what is out is below all that is left -/
structure Mrg (a b : List Key) (i k : Nat) (out : List Key) : Prop where
  rises : out.Pairwise kl
  same : ∀ x, x ∈ out ↔ x ∈ a.take i ∨ x ∈ b.take k
  lefta : ∀ x ∈ out, ∀ y ∈ a.drop i, kl x y
  leftb : ∀ x ∈ out, ∀ y ∈ b.drop k, kl x y
theorem Mrg.start (a b : List Key) : Mrg a b 0 0 [] := ⟨List.Pairwise.nil, fun x => by simp, fun x h => absurd h (by simp), fun x h => absurd h (by simp)⟩
theorem drop_rises {l : List Key} (h : l.Pairwise kl) {i : Nat} (hi : i < l.length) : ∀ y ∈ l.drop (i + 1), kl l[i] y := by
  have := (List.pairwise_iff_getElem.1 h)
  intro y hy
  obtain ⟨j, hj, rfl⟩ := List.getElem_of_mem hy
  rw [List.getElem_drop]
  exact this i (i + 1 + j) hi (by rw [List.length_drop] at hj; omega) (by omega)
theorem mem_drop_of {l : List Key} {i : Nat} {y : Key} (h : y ∈ l.drop (i + 1)) : y ∈ l.drop i := by
  rw [← List.drop_drop] at h
  exact List.mem_of_mem_drop h
theorem mem_drop_self {l : List Key} {i : Nat} (h : i < l.length) : l[i] ∈ l.drop i := by
  rw [List.drop_eq_getElem_cons h]; exact List.mem_cons_self
theorem push_rises {out : List Key} {x : Key} (h : out.Pairwise kl) (hx : ∀ k ∈ out, kl k x) : (out ++ [x]).Pairwise kl :=
  List.pairwise_append.2 ⟨h, List.pairwise_singleton _ _, fun k hk y hy => by rw [List.mem_singleton.1 hy]; exact hx k hk⟩
/-- the one of a is next, alone -/
theorem Mrg.left {a b : List Key} {i k : Nat} {out : List Key} (h : Mrg a b i k out) (ha : a.Pairwise kl) (hb : b.Pairwise kl) (hi : i < a.length) (hlt : ∀ hk : k < b.length, kl a[i] b[k]) : Mrg a b (i + 1) k (out ++ [a[i]]) := by
  have hx : ∀ y ∈ b.drop k, kl a[i] y := fun y hy => by
    by_cases hk : k < b.length
    · rw [List.drop_eq_getElem_cons hk] at hy
      rcases List.mem_cons.1 hy with e | hy
      · rw [e]; exact hlt hk
      · exact kl_trans (hlt hk) (drop_rises hb hk y hy)
    · rw [List.drop_eq_nil_of_le (by omega)] at hy; cases hy
  refine ⟨push_rises h.rises (fun x hx => h.lefta x hx _ (mem_drop_self hi)), fun x => ?_, fun x hx' y hy => ?_, fun x hx' y hy => ?_⟩
  · rw [List.mem_append, h.same, List.mem_singleton, List.take_add_one, List.getElem?_eq_getElem hi, List.mem_append]
    simp only [Option.toList_some, List.mem_singleton]
    constructor
    · rintro ((h | h) | h)
      · exact .inl (.inl h)
      · exact .inr h
      · exact .inl (.inr h)
    · rintro ((h | h) | h)
      · exact .inl (.inl h)
      · exact .inr h
      · exact .inl (.inr h)
  · rcases List.mem_append.1 hx' with hx' | hx'
    · exact h.lefta x hx' y (mem_drop_of hy)
    · rw [List.mem_singleton.1 hx']; exact drop_rises ha hi y hy
  · rcases List.mem_append.1 hx' with hx' | hx'
    · exact h.leftb x hx' y hy
    · rw [List.mem_singleton.1 hx']; exact hx y hy
/-- the one of b is next, alone -/
theorem Mrg.flip {a b : List Key} {i k : Nat} {out : List Key} (h : Mrg a b i k out) : Mrg b a k i out := ⟨h.rises, fun x => (h.same x).trans Or.comm, h.leftb, h.lefta⟩
theorem Mrg.right {a b : List Key} {i k : Nat} {out : List Key} (h : Mrg a b i k out) (ha : a.Pairwise kl) (hb : b.Pairwise kl) (hk : k < b.length) (hlt : ∀ hi : i < a.length, kl b[k] a[i]) : Mrg a b i (k + 1) (out ++ [b[k]]) := (h.flip.left hb ha hk hlt).flip
/-- both are the same: one of them -/
theorem Mrg.both {a b : List Key} {i k : Nat} {out : List Key} (h : Mrg a b i k out) (ha : a.Pairwise kl) (hb : b.Pairwise kl) (hi : i < a.length) (hk : k < b.length) (e : a[i] = b[k]) : Mrg a b (i + 1) (k + 1) (out ++ [a[i]]) := by
  refine ⟨push_rises h.rises (fun x hx => h.lefta x hx _ (mem_drop_self hi)), fun x => ?_, fun x hx' y hy => ?_, fun x hx' y hy => ?_⟩
  · rw [List.mem_append, h.same, List.mem_singleton, List.take_add_one, List.getElem?_eq_getElem hi, List.take_add_one, List.getElem?_eq_getElem hk, List.mem_append, List.mem_append]
    simp only [Option.toList_some, List.mem_singleton, ← e]
    constructor
    · rintro ((h | h) | h)
      · exact .inl (.inl h)
      · exact .inr (.inl h)
      · exact .inl (.inr h)
    · rintro ((h | h) | (h | h))
      · exact .inl (.inl h)
      · exact .inr h
      · exact .inl (.inr h)
      · exact .inr h
  · rcases List.mem_append.1 hx' with hx' | hx'
    · exact h.lefta x hx' y (mem_drop_of hy)
    · rw [List.mem_singleton.1 hx']; exact drop_rises ha hi y hy
  · rcases List.mem_append.1 hx' with hx' | hx'
    · exact h.leftb x hx' y (mem_drop_of hy)
    · rw [List.mem_singleton.1 hx', e]; exact drop_rises hb hk y hy
theorem Mrg.told {a b : List Key} {out ks ms : List Key} (h : Mrg a b a.length b.length out) (ha : Told ks a) (hb : Told ms b) : Told (ks ++ ms) out :=
  ⟨h.rises, fun x => by rw [h.same, List.take_length, List.take_length, List.mem_append, ha.same, hb.same]⟩
end Go.Proofs.YtoppgalbmijhdaaGreatDoor
