import Derived.Test.YteabclfhmapabaaDoorA35
import Derived.Deep.DeepCutAuto
import Derived.Deep.RegionHeld3
section
namespace Go.Proofs.YteabclfhmapabaaDoor
open Go.RowKit Go.Maps
set_option linter.unusedVariables false
set_option linter.unusedSimpArgs false
attribute [local go_sem ↓] Go.wp_at_zero Go.wp_at_succ

/-- an expression that lies in blocks from lo on, but for those of ex: it stays while these stay -/
def Frs (lo : Nat) (wr : World) (ex : Nat → Prop) (d : Nat) (e : E) (a : Option Addr) (c : Nat) : Prop :=
  ∀ w'' : World, wr.heap.size ≤ w''.heap.size → (∀ k, lo ≤ k → k < wr.heap.size → ¬ ex k → w''.heap[k]? = wr.heap[k]?) → EIs w'' d e a c
theorem Frs.eis {lo : Nat} {wr : World} {ex : Nat → Prop} {d : Nat} {e : E} {a : Option Addr} {c : Nat} (h : Frs lo wr ex d e a c) : EIs wr d e a c := h wr (Nat.le_refl _) (fun _ _ _ _ => rfl)
theorem Frs.keep {lo : Nat} {wr wr' : World} {ex ex' : Nat → Prop} {d : Nat} {e : E} {a : Option Addr} {c : Nat} (h : Frs lo wr ex d e a c) (hs : wr.heap.size ≤ wr'.heap.size) (hag : ∀ k, lo ≤ k → k < wr.heap.size → ¬ ex k → wr'.heap[k]? = wr.heap[k]?) (hex : ∀ k, k < wr.heap.size → ex' k → ex k) : Frs lo wr' ex' d e a c :=
  fun w'' h1 h2 => h w'' (Nat.le_trans hs h1) (fun k k1 k2 k3 => (h2 k k1 (Nat.lt_of_lt_of_le k2 hs) (fun e => k3 (hex k k2 e))).trans (hag k k1 k2 k3))
theorem Frs.lower {lo lo' : Nat} {wr : World} {ex ex' : Nat → Prop} {d : Nat} {e : E} {a : Option Addr} {c : Nat} (h : Frs lo wr ex d e a c) (hl : lo' ≤ lo) (hex : ∀ k, lo ≤ k → k < wr.heap.size → ex' k → ex k) : Frs lo' wr ex' d e a c :=
  fun w'' h1 h2 => h w'' h1 (fun k k1 k2 k3 => h2 k (Nat.le_trans hl k1) k2 (fun e => k3 (hex k k1 k2 e)))
theorem eis_of_lx {w : World} {a : Option Addr} {c d : Nat} {xs : List X} {op : Int} {t : T} {ks : List E} (h : Lx w (.slice a xs.length c) d xs) (hk : xs.map X.e = ks) (hop : (-128 ≤ op ∧ op ≤ 127)) (hn : ks.length ≤ 281474976710656) (ht : t.wf) : EIs w (d + 1) (.mk op t ks) a c := by
  have hl : ks.length = xs.length := by rw [← hk, List.length_map]
  obtain ⟨a', c', e, h1, h2, h3⟩ := h.form
  cases e
  refine ⟨⟨hop, hn⟩, ht, by show ks.length ≤ c; omega, h2, fun h0 => ?_⟩
  have h0 : 0 < ks.length := h0
  obtain ⟨g, off, ha, hg, hx⟩ := h3 (by omega)
  refine ⟨g, off, ha, hg, fun i hi => ?_⟩
  have hi : i < ks.length := hi
  have hi' : i < xs.length := by omega
  have e1 : atE ks i = (atX xs i).e := by
    subst hk
    rw [atE_eq (by rw [List.length_map]; exact hi'), atX_eq hi', List.getElem_map]
  show ∃ a' c', XAt w g (off + i * 6) (atE ks i).op (atE ks i).t (.slice a' (atE ks i).kids.length c') ∧ EIs w d (atE ks i) a' c'
  rw [e1]
  exact ⟨(atX xs i).a, (atX xs i).c, hx i hi', h.each _ (by rw [atX_eq hi']; exact List.getElem_mem hi')⟩
/-- what ApplyExpr keeps: the expression's box, the result, the one that grows at b, its kids in a row -/
structure ApS (w : World) (R : List Value) (op : Int) (t : T) (d : Nat) (b : Nat) (xs : List X) (a' : Option Addr) (c' : Nat) (wr : World) : Prop where
  bel : Below w.heap.size w wr
  bb : w.heap.size + 2 ≤ b ∧ b < wr.heap.size
  r0 : RL wr w.heap.size 54 R
  r1 : RL wr (w.heap.size + 1) 54 [.int .i8 0, .string ⟨#[]⟩, .int .i8 0, .int .i64 0, .string ⟨#[]⟩, .slice none 0 0]
  r2 : RL wr b 54 [.int .i8 op, .string t.v, .int .i8 t.a.k, .int .i64 t.a.n, .string t.a.s, .slice a' xs.length c']
  own : wr.ownsRow (b + 1) 54 6 (.slice a' xs.length c') xs.length (xs.flatMap X.cells)
  fr : ∀ x ∈ xs, Frs w.heap.size wr (fun k => k = b ∨ k = w.heap.size + 1 ∨ (Value.slice a' xs.length c').ownBlock = some k) d x.e x.a x.c
theorem ApS.keep {w : World} {R : List Value} {op : Int} {t : T} {d b : Nat} {xs : List X} {a' : Option Addr} {c' : Nat} {wr wr' : World} (h : ApS w R op t d b xs a' c' wr) (hb : Below wr.heap.size wr wr') : ApS w R op t d b xs a' c' wr' :=
  ⟨h.bel.trans (hb.mono h.bel.size), ⟨h.bb.1, Nat.lt_of_lt_of_le h.bb.2 hb.size⟩, h.r0.below hb, h.r1.below hb, h.r2.below hb, own_below h.own hb, fun x hx => (h.fr x hx).keep hb.size (fun k _ hk _ => hb.block k hk) (fun _ _ e => e)⟩
/-- one kid more -/
theorem ApS.step {w : World} {R : List Value} {op : Int} {t : T} {d b : Nat} {xs : List X} {a' : Option Addr} {c' : Nat} {U w2 w3 : World} (h : ApS w R op t d b xs a' c' U) (b2 : Below U.heap.size U w2) (x : X) (hx : Frs U.heap.size w2 (fun _ => False) d x.e x.a x.c) {o : Obj} {v' : Value}
    (hown' : w3.ownsRow (b + 1) 54 6 v' (xs.length + 1) (xs.flatMap X.cells ++ X.cells x)) (hgrow : (w2.alloc o).grownBy w3 (Value.slice a' xs.length c').ownBlock) (hloc : v'.ownBlock = (Value.slice a' xs.length c').ownBlock ∨ v'.ownBlock = some (w2.alloc o).heap.size) :
    ∃ a2 c2, v' = .slice a2 (xs.length + 1) c2 ∧ ApS w R op t d b (xs ++ [x]) a2 c2 (w3.setCell ⟨b, 5, none⟩ (.slice a2 (xs.length + 1) c2)) ∧ w3.cell? ⟨b, 5, none⟩ = some (.slice a' xs.length c') ∧ w3.frozen? ⟨b, 5, none⟩ = false := by
  obtain ⟨a2, c2, rfl, _⟩ := own_form hown'
  have hA := belowA (w := w2) o
  have hb2 := b2.trans (hA.mono b2.size)
  have hlt := fun g (hg : (Value.slice a' xs.length c').ownBlock = some g) => h.own.lt g hg
  have hbl := h.bb
  have hs3 := hgrow.size
  have hs2 := hb2.size
  have kb : ∀ j, j < U.heap.size → (Value.slice a' xs.length c').ownBlock ≠ some j → w3.heap[j]? = U.heap[j]? := fun j hj hn => (hgrow.block j (by omega) (fun e => hn e.symm)).trans (hb2.block j hj)
  have kl : ∀ j, j ≤ b → w3.heap[j]? = U.heap[j]? := fun j hj => kb j (by omega) (fun e => by have := (hlt j e).1; omega)
  have q0 : RL w3 w.heap.size 54 R := World.rowIs.of_block h.r0 (kl _ (by omega))
  have q1 := World.rowIs.of_block h.r1 (kl _ (by omega))
  have q2 : RL w3 b 54 [.int .i8 op, .string t.v, .int .i8 t.a.k, .int .i64 t.a.n, .string t.a.s, .slice a' xs.length c'] := World.rowIs.of_block h.r2 (kl _ (by omega))
  have hl1 : (xs ++ [x]).length = xs.length + 1 := by simp
  have hnew : ∀ k, (Value.slice a2 (xs.length + 1) c2).ownBlock = some k → (Value.slice a' xs.length c').ownBlock = some k ∨ k = (w2.alloc o).heap.size := fun k hk => by
    rcases hloc with l | l
    · rw [l] at hk; exact .inl hk
    · rw [l] at hk; exact .inr (Option.some.inj hk).symm
  refine ⟨a2, c2, rfl, ⟨?_, ⟨hbl.1, by simp only [World.size_setCell]; omega⟩, q0.other (by omega) _, RL.other q1 (by omega) _, ?_, ?_, ?_⟩, q2.at (j := 5) rfl, World.rowIs.frozen q2 5⟩
  · refine Below.setCell (p := ⟨b, 5, none⟩) ?_ (by show _ ≤ b; omega) _
    exact (h.bel.trans (hb2.mono h.bel.size)).grown hgrow (by have := h.bel.size; omega) (fun j hj => by have := (hlt j hj).1; omega)
  · rw [hl1]; exact q2.set 5 _
  · rw [hl1, List.flatMap_append]
    refine own_of_block (sv := .slice a2 (xs.length + 1) c2) ?_ (fun g hg => heap_setCell_other _ _ _ _ (by have := (hown'.lt g hg).1; show g ≠ b; omega))
    simpa using hown'
  · intro z hz
    rw [hl1]
    rcases List.mem_append.1 hz with hz | hz
    · refine (h.fr z hz).keep (by simp only [World.size_setCell]; omega) (fun k k1 k2 k3 => ?_) (fun k hk e => ?_)
      · rw [heap_setCell_other _ _ _ _ (by show k ≠ b; exact fun e => k3 (.inl e))]
        exact kb k k2 (fun e => k3 (.inr (.inr e)))
      · rcases e with e | e | e
        · exact .inl e
        · exact .inr (.inl e)
        · rcases hnew k e with e | e
          · exact .inr (.inr e)
          · omega
    · obtain rfl := List.mem_singleton.1 hz
      have h1 : Frs U.heap.size (w3.setCell ⟨b, 5, none⟩ (.slice a2 (xs.length + 1) c2)) (fun k => k = b ∨ k = w.heap.size + 1 ∨ (Value.slice a2 (xs.length + 1) c2).ownBlock = some k) d z.e z.a z.c := by
        have hsz : w2.heap.size + 1 = (w2.alloc o).heap.size := by simp
        intro w'' s1 s2
        refine hx w'' (by simp only [World.size_setCell] at s1; omega) (fun k k1 k2 _ => ?_)
        have hne : (Value.slice a' xs.length c').ownBlock ≠ some k := fun e => by have := (hlt k e).2; omega
        rw [s2 k k1 (by simp only [World.size_setCell]; omega) (fun e => ?_), heap_setCell_other _ _ _ _ (by show k ≠ b; omega), hgrow.block k (by omega) (fun e => hne e.symm), hA.block k k2]
        rcases e with e | e | e
        · omega
        · omega
        · rcases hnew k e with e | e
          · exact hne e
          · omega
      exact h1.lower h.bel.size (fun k _ _ e => e)
theorem set6_other {wr : World} {p k : Nat} (h : k ≠ p) (v0 v1 v2 v3 v4 v5 : Value) : ((((((wr.setCell ⟨p, 0, none⟩ v0).setCell ⟨p, 1, none⟩ v1).setCell ⟨p, 2, none⟩ v2).setCell ⟨p, 3, none⟩ v3).setCell ⟨p, 4, none⟩ v4).setCell ⟨p, 5, none⟩ v5).heap[k]? = wr.heap[k]? := by
  rw [heap_setCell_other _ _ _ _ h, heap_setCell_other _ _ _ _ h, heap_setCell_other _ _ _ _ h, heap_setCell_other _ _ _ _ h, heap_setCell_other _ _ _ _ h, heap_setCell_other _ _ _ _ h]
/-- the end: the result is written whole -/
theorem ApS.done {w : World} {R : List Value} {op : Int} {t : T} {d b : Nat} {xs : List X} {a' : Option Addr} {c' : Nat} {wr : World} (h : ApS w R op t d b xs a' c' wr) {ks : List E} (hk : xs.map X.e = ks) (hop : (-128 ≤ op ∧ op ≤ 127)) (hn : ks.length ≤ 281474976710656) (ht : t.wf) {wf : World}
    (hwf : wf = (((((wr.setCell ⟨w.heap.size + 1, 0, none⟩ (.int .i8 op)).setCell ⟨w.heap.size + 1, 1, none⟩ (.string t.v)).setCell ⟨w.heap.size + 1, 2, none⟩ (.int .i8 t.a.k)).setCell ⟨w.heap.size + 1, 3, none⟩ (.int .i64 t.a.n)).setCell ⟨w.heap.size + 1, 4, none⟩ (.string t.a.s)).setCell ⟨w.heap.size + 1, 5, none⟩ (.slice a' xs.length c')) :
    RL wf (w.heap.size + 1) 54 [.int .i8 op, .string t.v, .int .i8 t.a.k, .int .i64 t.a.n, .string t.a.s, .slice a' xs.length c'] ∧ Below w.heap.size w wf ∧ Frs w.heap.size wf (fun _ => False) (d + 1) (.mk op t ks) a' c' := by
  have hp : ∀ j, w.heap.size ≤ (⟨w.heap.size + 1, j, none⟩ : Addr).block := fun j => by show _ ≤ w.heap.size + 1; omega
  have hbb := h.bb
  subst hwf
  refine ⟨(((((h.r1.set 0 _).set 1 _).set 2 _).set 3 _).set 4 _).set 5 _, (((((h.bel.setCell (hp 0) _).setCell (hp 1) _).setCell (hp 2) _).setCell (hp 3) _).setCell (hp 4) _).setCell (hp 5) _, fun w'' s1 s2 => ?_⟩
  simp only [World.size_setCell] at s1 s2
  refine eis_of_lx (xs := xs) ⟨ls_own (own_of_block h.own (fun g hg => ?_)), fun x hx => h.fr x hx w'' s1 (fun k k1 k2 k3 => ?_)⟩ hk hop hn ht
  · have := h.own.lt g hg
    rw [s2 g (by omega) (by omega) (fun e => e), set6_other (by omega)]
  · rw [s2 k k1 k2 (fun e => e), set6_other (fun e => k3 (.inr (.inl e)))]
end Go.Proofs.YteabclfhmapabaaDoor
end
section
namespace Go.Proofs.YteabclfhmapabaaDoor
open Go.RowKit Go.Maps
set_option linter.unusedVariables false
set_option linter.unusedSimpArgs false
attribute [local go_sem ↓] Go.wp_at_zero Go.wp_at_succ

end Go.Proofs.YteabclfhmapabaaDoor
end
section
namespace Go.Proofs.YteabclfhmapabaaDoor
open Go.RowKit Go.Maps
set_option linter.unusedVariables false
set_option linter.unusedSimpArgs false
attribute [local go_sem ↓] Go.wp_at_zero Go.wp_at_succ
attribute [-go_sem] loadVar storeVar

/-- a literal whose lists lie in blocks from lo on, but for those of ex: it stays while these stay -/
def Frl (lo : Nat) (wr : World) (ex : Nat → Prop) (d : Nat) (x : Lit4) (p : LP) : Prop :=
  ∀ w'' : World, wr.heap.size ≤ w''.heap.size → (∀ k, lo ≤ k → k < wr.heap.size → ¬ ex k → w''.heap[k]? = wr.heap[k]?) → LIs w'' d x p
theorem Frl.is {lo : Nat} {wr : World} {ex : Nat → Prop} {d : Nat} {x : Lit4} {p : LP} (h : Frl lo wr ex d x p) : LIs wr d x p := h wr (Nat.le_refl _) (fun _ _ _ _ => rfl)
theorem Frl.keep {lo : Nat} {wr wr' : World} {ex ex' : Nat → Prop} {d : Nat} {x : Lit4} {p : LP} (h : Frl lo wr ex d x p) (hs : wr.heap.size ≤ wr'.heap.size) (hag : ∀ k, lo ≤ k → k < wr.heap.size → ¬ ex k → wr'.heap[k]? = wr.heap[k]?) (hex : ∀ k, k < wr.heap.size → ex' k → ex k) : Frl lo wr' ex' d x p :=
  fun w'' h1 h2 => h w'' (Nat.le_trans hs h1) (fun k k1 k2 k3 => (h2 k k1 (Nat.lt_of_lt_of_le k2 hs) (fun e => k3 (hex k k2 e))).trans (hag k k1 k2 k3))
theorem Frl.lower {lo lo' : Nat} {wr : World} {ex ex' : Nat → Prop} {d : Nat} {x : Lit4} {p : LP} (h : Frl lo wr ex d x p) (hl : lo' ≤ lo) (hex : ∀ k, lo ≤ k → k < wr.heap.size → ex' k → ex k) : Frl lo' wr ex' d x p :=
  fun w'' h1 h2 => h w'' h1 (fun k k1 k2 k3 => h2 k (Nat.le_trans hl k1) k2 (fun e => k3 (hex k k1 k2 e)))
/-- a literal's box and the result's, below all else -/
structure BzL (w : World) (R : List Value) (u : World) : Prop where
  bel : Below w.heap.size w u
  box : RL u w.heap.size 56 R
  res : ∃ Z : List Value, Z.length = 16 ∧ RL u (w.heap.size + 1) 56 Z
theorem BzL.next {w : World} {R : List Value} {u v : World} (h : BzL w R u) (b : Below u.heap.size u v) : BzL w R v := by
  obtain ⟨Z, hz, hr⟩ := h.res
  exact ⟨h.bel.trans (b.mono h.bel.size), h.box.below b, Z, hz, hr.below b⟩
theorem BzL.sz {w : World} {R : List Value} {u : World} (h : BzL w R u) : w.heap.size + 2 ≤ u.heap.size := by
  obtain ⟨Z, hz, hr⟩ := h.res
  exact World.rowIs.lt hr
theorem BzL.drew {w : World} {R : List Value} {u : World} (h : BzL w R u) : BzL w R u.drew := h.next (Below.refl _ _).drew
theorem BzL.put {w : World} {R : List Value} {u : World} (h : BzL w R u) (l : List Value) (hl : l.length = 16) : BzL w R (u.setCells (w.heap.size + 1) 0 l) := by
  obtain ⟨Z, hz, hr⟩ := h.res
  exact ⟨below_setCells (by omega) _ _ _ h.bel, World.rowIs.of_block h.box (heap_setCells_other (by omega) _ _ _), l, hl, rl_setAll hr l (by omega)⟩
end Go.Proofs.YteabclfhmapabaaDoor
end
section
namespace Go.Proofs.YteabclfhmapabaaDoor
open Go.RowKit Go.Maps
set_option linter.unusedVariables false
set_option linter.unusedSimpArgs false
attribute [local go_sem ↓] Go.wp_at_zero Go.wp_at_succ

/-- what replaced keeps while the head grows -/
structure ReS (w : World) (R : List Value) (pr : ByteArray) (us : List A5) (a' : Option Addr) (c' : Nat) (wr : World) : Prop where
  bel : Below w.heap.size w wr
  bz : w.heap.size + 3 ≤ wr.heap.size
  r0 : RL wr w.heap.size 25 R
  r1 : RL wr (w.heap.size + 1) 25 [.string ⟨#[]⟩, .slice none 0 0, .slice none 0 0]
  r2 : RL wr (w.heap.size + 2) 25 [.string pr, .slice a' us.length c', .slice none 0 0]
  own : wr.ownsRow (w.heap.size + 3) 99 5 (.slice a' us.length c') us.length (us.flatMap A5.cells)
theorem ReS.keep {w : World} {R : List Value} {pr : ByteArray} {us : List A5} {a' : Option Addr} {c' : Nat} {wr wr' : World} (h : ReS w R pr us a' c' wr) (hb : Below wr.heap.size wr wr') : ReS w R pr us a' c' wr' :=
  ⟨h.bel.trans (hb.mono h.bel.size), Nat.le_trans h.bz hb.size, h.r0.below hb, h.r1.below hb, h.r2.below hb, own_below h.own hb⟩
theorem ReS.step {w : World} {R : List Value} {pr : ByteArray} {us : List A5} {a' : Option Addr} {c' : Nat} {U w3 : World} (h : ReS w R pr us a' c' U) (t : A5) {v' : Value}
    (hown' : w3.ownsRow (w.heap.size + 3) 99 5 v' (us.length + 1) (us.flatMap A5.cells ++ A5.cells t)) (hgrow : U.grownBy w3 (Value.slice a' us.length c').ownBlock) :
    ∃ a2 c2, v' = .slice a2 (us.length + 1) c2 ∧ ReS w R pr (us ++ [t]) a2 c2 (w3.setCell ⟨w.heap.size + 2, 1, none⟩ (.slice a2 (us.length + 1) c2)) ∧ w3.cell? ⟨w.heap.size + 2, 1, none⟩ = some (.slice a' us.length c') ∧ w3.frozen? ⟨w.heap.size + 2, 1, none⟩ = false := by
  obtain ⟨a2, c2, rfl, _⟩ := own_form hown'
  have hlt := fun g (hg : (Value.slice a' us.length c').ownBlock = some g) => (h.own.lt g hg).1
  have hs3 := hgrow.size
  have hz := h.bz
  have kl : ∀ j, j < w.heap.size + 3 → w3.heap[j]? = U.heap[j]? := fun j hj => hgrow.block j (by omega) (fun e => by have := hlt j e.symm; omega)
  have q0 : RL w3 w.heap.size 25 R := World.rowIs.of_block h.r0 (kl _ (by omega))
  have q1 : RL w3 (w.heap.size + 1) 25 [.string ⟨#[]⟩, .slice none 0 0, .slice none 0 0] := World.rowIs.of_block h.r1 (kl _ (by omega))
  have q2 : RL w3 (w.heap.size + 2) 25 [.string pr, .slice a' us.length c', .slice none 0 0] := World.rowIs.of_block h.r2 (kl _ (by omega))
  have hl1 : (us ++ [t]).length = us.length + 1 := by simp
  refine ⟨a2, c2, rfl, ⟨?_, by simp only [World.size_setCell]; omega, q0.other (by omega) _, q1.other (by omega) _, ?_, ?_⟩, q2.at (j := 1) rfl, World.rowIs.frozen q2 1⟩
  · refine Below.setCell (p := ⟨w.heap.size + 2, 1, none⟩) ?_ (by show _ ≤ w.heap.size + 2; omega) _
    exact h.bel.grown hgrow h.bel.size (fun j hj => by have := hlt j hj; omega)
  · rw [hl1]; exact q2.set 1 _
  · rw [hl1, List.flatMap_append]
    refine own_of_block (sv := .slice a2 (us.length + 1) c2) ?_ (fun g hg => heap_setCell_other _ _ _ _ (by have := (hown'.lt g hg).1; show g ≠ w.heap.size + 2; omega))
    simpa using hown'
/-- what replaced keeps while the body grows -/
structure RfS (w : World) (R : List Value) (pr : ByteArray) (us : List A5) (ha : Option Addr) (hc : Nat) (d : Nat) (xs : List XL) (a' : Option Addr) (c' : Nat) (wr : World) : Prop where
  bel : Below w.heap.size w wr
  bz : w.heap.size + 3 ≤ wr.heap.size
  r0 : RL wr w.heap.size 25 R
  r1 : RL wr (w.heap.size + 1) 25 [.string ⟨#[]⟩, .slice none 0 0, .slice none 0 0]
  r2 : RL wr (w.heap.size + 2) 25 [.string pr, .slice ha us.length hc, .slice a' xs.length c']
  ownh : wr.ownsRow (w.heap.size + 3) 99 5 (.slice ha us.length hc) us.length (us.flatMap A5.cells)
  own : wr.ownsRow (w.heap.size + 3) 56 16 (.slice a' xs.length c') xs.length (xs.flatMap XL.cells)
  dj : ∀ g, (Value.slice ha us.length hc).ownBlock = some g → (Value.slice a' xs.length c').ownBlock ≠ some g
  fr : ∀ y ∈ xs, Frl (w.heap.size + 3) wr (fun k => (Value.slice a' xs.length c').ownBlock = some k) d y.x y.p
theorem RfS.keep {w : World} {R : List Value} {pr : ByteArray} {us : List A5} {ha : Option Addr} {hc d : Nat} {xs : List XL} {a' : Option Addr} {c' : Nat} {wr wr' : World} (h : RfS w R pr us ha hc d xs a' c' wr) (hb : Below wr.heap.size wr wr') : RfS w R pr us ha hc d xs a' c' wr' :=
  ⟨h.bel.trans (hb.mono h.bel.size), Nat.le_trans h.bz hb.size, h.r0.below hb, h.r1.below hb, h.r2.below hb, own_below h.ownh hb, own_below h.own hb, h.dj, fun y hy => (h.fr y hy).keep hb.size (fun k _ hk _ => hb.block k hk) (fun _ _ e => e)⟩
theorem ReS.start {w : World} {R : List Value} {pr : ByteArray} {us : List A5} {a' : Option Addr} {c' : Nat} {wr : World} (h : ReS w R pr us a' c' wr) (d : Nat) : RfS w R pr us a' c' d [] none 0 wr :=
  ⟨h.bel, h.bz, h.r0, h.r1, h.r2, h.own, World.ownsRow_nil _ _ _ _, fun g _ e => (by cases e), fun y hy => (by cases hy)⟩
theorem RfS.step {w : World} {R : List Value} {pr : ByteArray} {us : List A5} {ha : Option Addr} {hc d : Nat} {xs : List XL} {a' : Option Addr} {c' : Nat} {U w2 w3 : World} (h : RfS w R pr us ha hc d xs a' c' U) (b2 : Below U.heap.size U w2) (y : XL) (hy : Frl U.heap.size w2 (fun _ => False) d y.x y.p) {o : Obj} {v' : Value}
    (hown' : w3.ownsRow (w.heap.size + 3) 56 16 v' (xs.length + 1) (xs.flatMap XL.cells ++ XL.cells y)) (hgrow : (w2.alloc o).grownBy w3 (Value.slice a' xs.length c').ownBlock) (hloc : v'.ownBlock = (Value.slice a' xs.length c').ownBlock ∨ v'.ownBlock = some (w2.alloc o).heap.size) :
    ∃ a2 c2, v' = .slice a2 (xs.length + 1) c2 ∧ RfS w R pr us ha hc d (xs ++ [y]) a2 c2 (w3.setCell ⟨w.heap.size + 2, 2, none⟩ (.slice a2 (xs.length + 1) c2)) ∧ w3.cell? ⟨w.heap.size + 2, 2, none⟩ = some (.slice a' xs.length c') ∧ w3.frozen? ⟨w.heap.size + 2, 2, none⟩ = false := by
  obtain ⟨a2, c2, rfl, _⟩ := own_form hown'
  have hA := belowA (w := w2) o
  have hb2 := b2.trans (hA.mono b2.size)
  have hlt := fun g (hg : (Value.slice a' xs.length c').ownBlock = some g) => h.own.lt g hg
  have hlh := fun g (hg : (Value.slice ha us.length hc).ownBlock = some g) => h.ownh.lt g hg
  have hz := h.bz
  have hs3 := hgrow.size
  have hs2 := hb2.size
  have kb : ∀ j, j < U.heap.size → (Value.slice a' xs.length c').ownBlock ≠ some j → w3.heap[j]? = U.heap[j]? := fun j hj hn => (hgrow.block j (by omega) (fun e => hn e.symm)).trans (hb2.block j hj)
  have kl : ∀ j, j < w.heap.size + 3 → w3.heap[j]? = U.heap[j]? := fun j hj => kb j (by omega) (fun e => by have := (hlt j e).1; omega)
  have q0 : RL w3 w.heap.size 25 R := World.rowIs.of_block h.r0 (kl _ (by omega))
  have q1 : RL w3 (w.heap.size + 1) 25 [.string ⟨#[]⟩, .slice none 0 0, .slice none 0 0] := World.rowIs.of_block h.r1 (kl _ (by omega))
  have q2 : RL w3 (w.heap.size + 2) 25 [.string pr, .slice ha us.length hc, .slice a' xs.length c'] := World.rowIs.of_block h.r2 (kl _ (by omega))
  have hl1 : (xs ++ [y]).length = xs.length + 1 := by simp
  have hnew : ∀ k, (Value.slice a2 (xs.length + 1) c2).ownBlock = some k → (Value.slice a' xs.length c').ownBlock = some k ∨ k = (w2.alloc o).heap.size := fun k hk => by
    rcases hloc with l | l
    · rw [l] at hk; exact .inl hk
    · rw [l] at hk; exact .inr (Option.some.inj hk).symm
  refine ⟨a2, c2, rfl, ⟨?_, by simp only [World.size_setCell]; omega, q0.other (by omega) _, q1.other (by omega) _, ?_, ?_, ?_, fun g hg => ?_, ?_⟩, q2.at (j := 2) rfl, World.rowIs.frozen q2 2⟩
  · refine Below.setCell (p := ⟨w.heap.size + 2, 2, none⟩) ?_ (by show _ ≤ w.heap.size + 2; omega) _
    exact (h.bel.trans (hb2.mono h.bel.size)).grown hgrow (by have := h.bel.size; omega) (fun j hj => by have := (hlt j hj).1; omega)
  · rw [hl1]; exact q2.set 2 _
  · refine own_of_block h.ownh (fun g hg => ?_)
    have := hlh g hg
    rw [heap_setCell_other _ _ _ _ (by show g ≠ w.heap.size + 2; omega)]
    exact kb g this.2 (h.dj g hg)
  · rw [hl1, List.flatMap_append]
    refine own_of_block (sv := .slice a2 (xs.length + 1) c2) ?_ (fun g hg => heap_setCell_other _ _ _ _ (by have := (hown'.lt g hg).1; show g ≠ w.heap.size + 2; omega))
    simpa using hown'
  · rw [hl1]
    intro e
    rcases hnew g e with e | e
    · exact h.dj g hg e
    · have := (hlh g hg).2; omega
  · intro z hz'
    rw [hl1]
    rcases List.mem_append.1 hz' with hz' | hz'
    · refine (h.fr z hz').keep (by simp only [World.size_setCell]; omega) (fun k k1 k2 k3 => ?_) (fun k hk e => ?_)
      · rw [heap_setCell_other _ _ _ _ (by show k ≠ w.heap.size + 2; omega)]
        exact kb k k2 k3
      · rcases hnew k e with e | e
        · exact e
        · omega
    · obtain rfl := List.mem_singleton.1 hz'
      have hsz : w2.heap.size + 1 = (w2.alloc o).heap.size := by simp
      intro w'' s1 s2
      simp only [World.size_setCell] at s1 s2
      refine hy w'' (by omega) (fun k k1 k2 _ => ?_)
      have hne : (Value.slice a' xs.length c').ownBlock ≠ some k := fun e => by have := (hlt k e).2; omega
      rw [s2 k (by omega) (by omega) (fun e => ?_), heap_setCell_other _ _ _ _ (by show k ≠ w.heap.size + 2; omega), hgrow.block k (by omega) (fun e => hne e.symm), hA.block k k2]
      rcases hnew k e with e | e
      · exact hne e
      · omega
/-- a rule whose lists lie in blocks from lo on: it stays while these stay -/
def Frr (lo : Nat) (wr : World) (d : Nat) (r : R3) (p : RP) : Prop :=
  ∀ w'' : World, wr.heap.size ≤ w''.heap.size → (∀ k, lo ≤ k → k < wr.heap.size → w''.heap[k]? = wr.heap[k]?) → RIs w'' d r p
theorem Frr.is {lo : Nat} {wr : World} {d : Nat} {r : R3} {p : RP} (h : Frr lo wr d r p) : RIs wr d r p := h wr (Nat.le_refl _) (fun _ _ _ => rfl)
theorem Frr.lower {lo lo' : Nat} {wr : World} {d : Nat} {r : R3} {p : RP} (h : Frr lo wr d r p) (hl : lo' ≤ lo) : Frr lo' wr d r p := fun w'' h1 h2 => h w'' h1 (fun k k1 k2 => h2 k (Nat.le_trans hl k1) k2)
theorem Frr.keep {lo : Nat} {wr wr' : World} {d : Nat} {r : R3} {p : RP} (h : Frr lo wr d r p) (hs : wr.heap.size ≤ wr'.heap.size) (hag : ∀ k, lo ≤ k → k < wr.heap.size → wr'.heap[k]? = wr.heap[k]?) : Frr lo wr' d r p := fun w'' h1 h2 => h w'' (Nat.le_trans hs h1) (fun k k1 k2 => (h2 k k1 (Nat.lt_of_lt_of_le k2 hs)).trans (hag k k1 k2))
theorem RfS.done {w : World} {R : List Value} {pr : ByteArray} {us : List A5} {ha : Option Addr} {hc d : Nat} {xs : List XL} {a' : Option Addr} {c' : Nat} {wr : World} (h : RfS w R pr us ha hc d xs a' c' wr) (hpr : pr.size ≤ maxLen) (hh : us.length ≤ 1048576) (hb : xs.length ≤ 1048576) (hw : ∀ t ∈ us, t.wf) :
    RL (res3 wr (w.heap.size + 1) pr (.slice ha us.length hc) (.slice a' xs.length c')) (w.heap.size + 1) 25 [.string pr, .slice ha us.length hc, .slice a' xs.length c'] ∧ Below w.heap.size w (res3 wr (w.heap.size + 1) pr (.slice ha us.length hc) (.slice a' xs.length c')) ∧ Frr w.heap.size (res3 wr (w.heap.size + 1) pr (.slice ha us.length hc) (.slice a' xs.length c')) d ⟨pr, us, xs⟩ ⟨ha, hc, a', c'⟩ := by
  refine ⟨res3_rl h.r1 _ _ _, res3_below (g := w.heap.size + 1) h.bel (by omega) _ _ _, fun w'' s1 s2 => ?_⟩
  rw [res3_size] at s1 s2
  have ag : ∀ k, w.heap.size + 3 ≤ k → k < wr.heap.size → w''.heap[k]? = wr.heap[k]? := fun k k1 k2 => by
    rw [s2 k (by omega) k2]
    exact res3_other _ _ _ _ _ (by omega)
  refine ⟨hpr, by show us.length ≤ _; omega, by show xs.length ≤ _; omega, ⟨?_, hw⟩, ⟨?_, fun y hy => ?_⟩⟩
  · exact ls_own (own_of_block h.ownh (fun g hg => ag g (h.ownh.lt g hg).1 (h.ownh.lt g hg).2))
  · exact ls_own (own_of_block h.own (fun g hg => ag g (h.own.lt g hg).1 (h.own.lt g hg).2))
  · exact h.fr y hy _ s1 (fun k k1 k2 _ => ag k k1 k2)
end Go.Proofs.YteabclfhmapabaaDoor
end
