import Derived.Test.YtgplipfebnigiaaGreatDoorG27
import Derived.Deep.DeepCutAuto
section
namespace Go.Proofs.YtgplipfebnigiaaGreatDoor
open Go.RowKit Go.Maps
set_option linter.unusedVariables false
set_option linter.unusedSimpArgs false
attribute [local go_sem ↓] Go.wp_at_zero Go.wp_at_succ

/-- an expression that lies in blocks from lo on, but for those of ex: it stays while these stay -/
def Frs (lo : Nat) (wr : World) (ex : Nat → Prop) (d : Nat) (e : E) (a : Option Addr) (c : Nat) : Prop :=
  ∀ w'' : World, wr.heap.size ≤ w''.heap.size → (∀ k, lo ≤ k → k < wr.heap.size → ¬ ex k → w''.heap[k]? = wr.heap[k]?) → EIs w'' d e a c
theorem Frs.eis {lo : Nat} {wr : World} {ex : Nat → Prop} {d : Nat} {e : E} {a : Option Addr} {c : Nat} (h : Frs lo wr ex d e a c) : EIs wr d e a c := h wr (Nat.le_refl _) (fun _ _ _ _ => rfl)
theorem Frs.keep {lo : Nat} {wr wr' : World} {ex ex' : Nat → Prop} {d : Nat} {e : E} {a : Option Addr} {c : Nat} (h : Frs lo wr ex d e a c) (hs : wr.heap.size ≤ wr'.heap.size) (hag : ∀ k, lo ≤ k → k < wr.heap.size → ¬ ex k → wr'.heap[k]? = wr.heap[k]?) (hex : ∀ k, k < wr.heap.size → ex' k → ex k) : Frs lo wr' ex' d e a c :=
  fun w'' h1 h2 => h w'' (Nat.le_trans hs h1) (fun k k1 k2 k3 => (h2 k k1 (Nat.lt_of_lt_of_le k2 hs) (fun e => k3 (hex k k2 e))).trans (hag k k1 k2 k3))
theorem Frs.lower {lo lo' : Nat} {wr : World} {ex ex' : Nat → Prop} {d : Nat} {e : E} {a : Option Addr} {c : Nat} (h : Frs lo wr ex d e a c) (hl : lo' ≤ lo) (hex : ∀ k, lo ≤ k → k < wr.heap.size → ex' k → ex k) : Frs lo' wr ex' d e a c :=
  fun w'' h1 h2 => h w'' h1 (fun k k1 k2 k3 => h2 k (Nat.le_trans hl k1) k2 (fun e => k3 (hex k k1 k2 e)))
theorem eis_of_lx {w : World} {a : Option Addr} {c d : Nat} {xs : List X} {op : Int} {t : T} {ks : List E} (h : Lx w (.slice a xs.length c) d xs) (hk : xs.map X.e = ks) (hop : (-128 ≤ op ∧ op ≤ 127)) (hn : ks.length ≤ 281474976710656) (ht : t.wf) : EIs w (d + 1) (.mk op t ks) a c := by
  have hl : ks.length = xs.length := by rw [← hk, List.length_map]
  obtain ⟨a', c', e, h1, h2, h3⟩ := h.form
  cases e
  refine ⟨⟨hop, hn⟩, ht, by show ks.length ≤ c; omega, h2, fun h0 => ?_⟩
  have h0 : 0 < ks.length := h0
  obtain ⟨g, off, ha, hg, hx⟩ := h3 (by omega)
  refine ⟨g, off, ha, hg, fun i hi => ?_⟩
  have hi : i < ks.length := hi
  have hi' : i < xs.length := by omega
  have e1 : atE ks i = (atX xs i).e := by
    subst hk
    rw [atE_eq (by rw [List.length_map]; exact hi'), atX_eq hi', List.getElem_map]
  show ∃ a' c', XAt w g (off + i * 6) (atE ks i).op (atE ks i).t (.slice a' (atE ks i).kids.length c') ∧ EIs w d (atE ks i) a' c'
  rw [e1]
  exact ⟨(atX xs i).a, (atX xs i).c, hx i hi', h.each _ (by rw [atX_eq hi']; exact List.getElem_mem hi')⟩
/-- what ApplyExpr keeps: the expression's box, the result, the one that grows at b, its kids in a row -/
structure ApS (w : World) (R : List Value) (op : Int) (t : T) (d : Nat) (b : Nat) (xs : List X) (a' : Option Addr) (c' : Nat) (wr : World) : Prop where
  bel : Below w.heap.size w wr
  bb : w.heap.size + 2 ≤ b ∧ b < wr.heap.size
  r0 : RL wr w.heap.size 74 R
  r1 : RL wr (w.heap.size + 1) 74 [.int .i8 0, .string ⟨#[]⟩, .int .i8 0, .int .i64 0, .string ⟨#[]⟩, .slice none 0 0]
  r2 : RL wr b 74 [.int .i8 op, .string t.v, .int .i8 t.a.k, .int .i64 t.a.n, .string t.a.s, .slice a' xs.length c']
  own : wr.ownsRow (b + 1) 74 6 (.slice a' xs.length c') xs.length (xs.flatMap X.cells)
  fr : ∀ x ∈ xs, Frs w.heap.size wr (fun k => k = b ∨ k = w.heap.size + 1 ∨ (Value.slice a' xs.length c').ownBlock = some k) d x.e x.a x.c
theorem ApS.keep {w : World} {R : List Value} {op : Int} {t : T} {d b : Nat} {xs : List X} {a' : Option Addr} {c' : Nat} {wr wr' : World} (h : ApS w R op t d b xs a' c' wr) (hb : Below wr.heap.size wr wr') : ApS w R op t d b xs a' c' wr' :=
  ⟨h.bel.trans (hb.mono h.bel.size), ⟨h.bb.1, Nat.lt_of_lt_of_le h.bb.2 hb.size⟩, h.r0.below hb, h.r1.below hb, h.r2.below hb, own_below h.own hb, fun x hx => (h.fr x hx).keep hb.size (fun k _ hk _ => hb.block k hk) (fun _ _ e => e)⟩
/-- the start: the one that grows is written whole -/
theorem aps_new {w X : World} {R : List Value} {b : Nat} (op : Int) (t : T) (d : Nat) (bel : Below w.heap.size w X) (hb : w.heap.size + 2 ≤ b) (r0 : RL X w.heap.size 74 R) (r1 : RL X (w.heap.size + 1) 74 [.int .i8 0, .string ⟨#[]⟩, .int .i8 0, .int .i64 0, .string ⟨#[]⟩, .slice none 0 0])
    (r2 : RL X b 74 [.int .i8 0, .string ⟨#[]⟩, .int .i8 0, .int .i64 0, .string ⟨#[]⟩, .slice none 0 0]) :
    ApS w R op t d b [] none 0 ((((((X.setCell ⟨b, 0, none⟩ (.int .i8 op)).setCell ⟨b, 1, none⟩ (.string t.v)).setCell ⟨b, 2, none⟩ (.int .i8 t.a.k)).setCell ⟨b, 3, none⟩ (.int .i64 t.a.n)).setCell ⟨b, 4, none⟩ (.string t.a.s)).setCell ⟨b, 5, none⟩ (.slice none 0 0)) := by
  have hl := World.rowIs.lt r2
  refine ⟨(((((bel.setCell (p := ⟨b, 0, none⟩) (by show _ ≤ b; omega) _).setCell (p := ⟨b, 1, none⟩) (by show _ ≤ b; omega) _).setCell (p := ⟨b, 2, none⟩) (by show _ ≤ b; omega) _).setCell (p := ⟨b, 3, none⟩) (by show _ ≤ b; omega) _).setCell (p := ⟨b, 4, none⟩) (by show _ ≤ b; omega) _).setCell (p := ⟨b, 5, none⟩) (by show _ ≤ b; omega) _, ⟨hb, by simp only [World.size_setCell]; exact hl⟩, ?_, ?_, ?_, World.ownsRow_nil _ _ _ _, fun x hx => absurd hx (by simp)⟩
  · exact (((((r0.other (by omega) _).other (by omega) _).other (by omega) _).other (by omega) _).other (by omega) _).other (by omega) _
  · exact (((((r1.other (by omega) _).other (by omega) _).other (by omega) _).other (by omega) _).other (by omega) _).other (by omega) _
  · exact (((((r2.set 0 _).set 1 _).set 2 _).set 3 _).set 4 _).set 5 _
theorem aps_new2 {w X : World} {R : List Value} (op : Int) (t : T) (d : Nat) (bel : Below w.heap.size w X) (hb : w.heap.size + 2 ≤ X.heap.size) (r0 : RL X w.heap.size 74 R) (r1 : RL X (w.heap.size + 1) 74 [.int .i8 0, .string ⟨#[]⟩, .int .i8 0, .int .i64 0, .string ⟨#[]⟩, .slice none 0 0]) :
    ApS w R op t d X.heap.size [] none 0 (X.alloc (.cells #[.int .i8 op, .string t.v, .int .i8 t.a.k, .int .i64 t.a.n, .string t.a.s, .slice none 0 0] 74)) :=
  ⟨bel.alloc bel.size _, ⟨hb, by simp⟩, r0.below (belowA _), r1.below (belowA _), rl_new X _ _, World.ownsRow_nil _ _ _ _, fun x hx => absurd hx (by simp)⟩
/-- one kid more -/
theorem ApS.step {w : World} {R : List Value} {op : Int} {t : T} {d b : Nat} {xs : List X} {a' : Option Addr} {c' : Nat} {U w2 w3 : World} (h : ApS w R op t d b xs a' c' U) (b2 : Below U.heap.size U w2) (x : X) (hx : Frs U.heap.size w2 (fun _ => False) d x.e x.a x.c) {o : Obj} {v' : Value}
    (hown' : w3.ownsRow (b + 1) 74 6 v' (xs.length + 1) (xs.flatMap X.cells ++ X.cells x)) (hgrow : (w2.alloc o).grownBy w3 (Value.slice a' xs.length c').ownBlock) (hloc : v'.ownBlock = (Value.slice a' xs.length c').ownBlock ∨ v'.ownBlock = some (w2.alloc o).heap.size) :
    ∃ a2 c2, v' = .slice a2 (xs.length + 1) c2 ∧ ApS w R op t d b (xs ++ [x]) a2 c2 (w3.setCell ⟨b, 5, none⟩ (.slice a2 (xs.length + 1) c2)) ∧ w3.cell? ⟨b, 5, none⟩ = some (.slice a' xs.length c') ∧ w3.frozen? ⟨b, 5, none⟩ = false := by
  obtain ⟨a2, c2, rfl, _⟩ := own_form hown'
  have hA := belowA (w := w2) o
  have hb2 := b2.trans (hA.mono b2.size)
  have hlt := fun g (hg : (Value.slice a' xs.length c').ownBlock = some g) => h.own.lt g hg
  have hbl := h.bb
  have hs3 := hgrow.size
  have hs2 := hb2.size
  have kb : ∀ j, j < U.heap.size → (Value.slice a' xs.length c').ownBlock ≠ some j → w3.heap[j]? = U.heap[j]? := fun j hj hn => (hgrow.block j (by omega) (fun e => hn e.symm)).trans (hb2.block j hj)
  have kl : ∀ j, j ≤ b → w3.heap[j]? = U.heap[j]? := fun j hj => kb j (by omega) (fun e => by have := (hlt j e).1; omega)
  have q0 : RL w3 w.heap.size 74 R := World.rowIs.of_block h.r0 (kl _ (by omega))
  have q1 := World.rowIs.of_block h.r1 (kl _ (by omega))
  have q2 : RL w3 b 74 [.int .i8 op, .string t.v, .int .i8 t.a.k, .int .i64 t.a.n, .string t.a.s, .slice a' xs.length c'] := World.rowIs.of_block h.r2 (kl _ (by omega))
  have hl1 : (xs ++ [x]).length = xs.length + 1 := by simp
  have hnew : ∀ k, (Value.slice a2 (xs.length + 1) c2).ownBlock = some k → (Value.slice a' xs.length c').ownBlock = some k ∨ k = (w2.alloc o).heap.size := fun k hk => by
    rcases hloc with l | l
    · rw [l] at hk; exact .inl hk
    · rw [l] at hk; exact .inr (Option.some.inj hk).symm
  refine ⟨a2, c2, rfl, ⟨?_, ⟨hbl.1, by simp only [World.size_setCell]; omega⟩, q0.other (by omega) _, RL.other q1 (by omega) _, ?_, ?_, ?_⟩, q2.at (j := 5) rfl, World.rowIs.frozen q2 5⟩
  · refine Below.setCell (p := ⟨b, 5, none⟩) ?_ (by show _ ≤ b; omega) _
    exact (h.bel.trans (hb2.mono h.bel.size)).grown hgrow (by have := h.bel.size; omega) (fun j hj => by have := (hlt j hj).1; omega)
  · rw [hl1]; exact q2.set 5 _
  · rw [hl1, List.flatMap_append]
    refine own_of_block (sv := .slice a2 (xs.length + 1) c2) ?_ (fun g hg => heap_setCell_other _ _ _ _ (by have := (hown'.lt g hg).1; show g ≠ b; omega))
    simpa using hown'
  · intro z hz
    rw [hl1]
    rcases List.mem_append.1 hz with hz | hz
    · refine (h.fr z hz).keep (by simp only [World.size_setCell]; omega) (fun k k1 k2 k3 => ?_) (fun k hk e => ?_)
      · rw [heap_setCell_other _ _ _ _ (by show k ≠ b; exact fun e => k3 (.inl e))]
        exact kb k k2 (fun e => k3 (.inr (.inr e)))
      · rcases e with e | e | e
        · exact .inl e
        · exact .inr (.inl e)
        · rcases hnew k e with e | e
          · exact .inr (.inr e)
          · omega
    · obtain rfl := List.mem_singleton.1 hz
      have h1 : Frs U.heap.size (w3.setCell ⟨b, 5, none⟩ (.slice a2 (xs.length + 1) c2)) (fun k => k = b ∨ k = w.heap.size + 1 ∨ (Value.slice a2 (xs.length + 1) c2).ownBlock = some k) d z.e z.a z.c := by
        have hsz : w2.heap.size + 1 = (w2.alloc o).heap.size := by simp
        intro w'' s1 s2
        refine hx w'' (by simp only [World.size_setCell] at s1; omega) (fun k k1 k2 _ => ?_)
        have hne : (Value.slice a' xs.length c').ownBlock ≠ some k := fun e => by have := (hlt k e).2; omega
        rw [s2 k k1 (by simp only [World.size_setCell]; omega) (fun e => ?_), heap_setCell_other _ _ _ _ (by show k ≠ b; omega), hgrow.block k (by omega) (fun e => hne e.symm), hA.block k k2]
        rcases e with e | e | e
        · omega
        · omega
        · rcases hnew k e with e | e
          · exact hne e
          · omega
      exact h1.lower h.bel.size (fun k _ _ e => e)
theorem set6_other {wr : World} {p k : Nat} (h : k ≠ p) (v0 v1 v2 v3 v4 v5 : Value) : ((((((wr.setCell ⟨p, 0, none⟩ v0).setCell ⟨p, 1, none⟩ v1).setCell ⟨p, 2, none⟩ v2).setCell ⟨p, 3, none⟩ v3).setCell ⟨p, 4, none⟩ v4).setCell ⟨p, 5, none⟩ v5).heap[k]? = wr.heap[k]? := by
  rw [heap_setCell_other _ _ _ _ h, heap_setCell_other _ _ _ _ h, heap_setCell_other _ _ _ _ h, heap_setCell_other _ _ _ _ h, heap_setCell_other _ _ _ _ h, heap_setCell_other _ _ _ _ h]
/-- the end: the result is written whole -/
theorem ApS.done {w : World} {R : List Value} {op : Int} {t : T} {d b : Nat} {xs : List X} {a' : Option Addr} {c' : Nat} {wr : World} (h : ApS w R op t d b xs a' c' wr) {ks : List E} (hk : xs.map X.e = ks) (hop : (-128 ≤ op ∧ op ≤ 127)) (hn : ks.length ≤ 281474976710656) (ht : t.wf) {wf : World}
    (hwf : wf = (((((wr.setCell ⟨w.heap.size + 1, 0, none⟩ (.int .i8 op)).setCell ⟨w.heap.size + 1, 1, none⟩ (.string t.v)).setCell ⟨w.heap.size + 1, 2, none⟩ (.int .i8 t.a.k)).setCell ⟨w.heap.size + 1, 3, none⟩ (.int .i64 t.a.n)).setCell ⟨w.heap.size + 1, 4, none⟩ (.string t.a.s)).setCell ⟨w.heap.size + 1, 5, none⟩ (.slice a' xs.length c')) :
    RL wf (w.heap.size + 1) 74 [.int .i8 op, .string t.v, .int .i8 t.a.k, .int .i64 t.a.n, .string t.a.s, .slice a' xs.length c'] ∧ Below w.heap.size w wf ∧ Frs w.heap.size wf (fun _ => False) (d + 1) (.mk op t ks) a' c' := by
  have hp : ∀ j, w.heap.size ≤ (⟨w.heap.size + 1, j, none⟩ : Addr).block := fun j => by show _ ≤ w.heap.size + 1; omega
  have hbb := h.bb
  subst hwf
  refine ⟨(((((h.r1.set 0 _).set 1 _).set 2 _).set 3 _).set 4 _).set 5 _, (((((h.bel.setCell (hp 0) _).setCell (hp 1) _).setCell (hp 2) _).setCell (hp 3) _).setCell (hp 4) _).setCell (hp 5) _, fun w'' s1 s2 => ?_⟩
  simp only [World.size_setCell] at s1 s2
  refine eis_of_lx (xs := xs) ⟨ls_own (own_of_block h.own (fun g hg => ?_)), fun x hx => h.fr x hx w'' s1 (fun k k1 k2 k3 => ?_)⟩ hk hop hn ht
  · have := h.own.lt g hg
    rw [s2 g (by omega) (by omega) (fun e => e), set6_other (by omega)]
  · rw [s2 k k1 k2 (fun e => e), set6_other (fun e => k3 (.inr (.inl e)))]
end Go.Proofs.YtgplipfebnigiaaGreatDoor
end
section
namespace Go.Proofs.YtgplipfebnigiaaGreatDoor
open Go.RowKit Go.Maps
set_option linter.unusedVariables false
set_option linter.unusedSimpArgs false
attribute [local go_sem ↓] Go.wp_at_zero Go.wp_at_succ

theorem takeE {l : List E} {k : Nat} (h : k < l.length) : l.take (k + 1) = l.take k ++ [atE l k] := by rw [List.take_add_one, List.getElem?_eq_getElem h, atE_eq h]; rfl
set_option maxHeartbeats 6400000 in
set_option maxRecDepth 100000 in
theorem rApplyExpr_any (ps : List P) : ∀ (d : Nat) (e : E) (a : Option Addr) (c : Nat) (sv : Value) (w : World), EIs w d e a c → smallE d e → Lp w sv ps →
    Calls Tryz.prog 91 #[sv, e.val a c] w fun q w' => ∃ a' c', q = .returned ((apD (putT ps) d e).val a' c') ∧ Below w.heap.size w w' ∧ Frs w.heap.size w' (fun _ => False) d (apD (putT ps) d e) a' c' := by
  intro d
  induction d with
  | zero => intro e a c sv w hE; exact absurd hE (fun h => h)
  | succ d ih =>
  intro e a c sv w hE hx hp
  obtain ⟨i0, hi0, hz0, hz1, hz2⟩ := info_parts infoCExpr
  obtain ⟨⟨hop, hkl⟩, htw, hc1, hc2, hk⟩ := hE
  have hk2 : e.kids.length ≤ 1048576 := hx.1
  have HKX : Hid (∀ i, i < e.kids.length → smallE d (atE e.kids i)) := hx.2
  have HK := Lib.hid hk
  have HIH : Hid _ := ih
  have HLP : Hid (∀ u, Below w.heap.size w u → Lp u sv ps) := fun u hu => hp.below hu
  have HTW := Lib.hid htw
  have HOP := Lib.hid hop
  have HPW : Hid (putT ps e.t).wf := by
    show (putT ps e.t).wf
    unfold putT
    split
    · exact htw
    · exact res_wf hp.wf htw
  obtain ⟨ap, cp, hv, -, -, -⟩ := hp.form
  subst hv
  have HP : Hid (∀ u, Below w.heap.size w u → Calls Tryz.prog 52 #[.slice ap ps.length cp, .agg #[.string e.t.v, .int .i8 e.t.a.k, .int .i64 e.t.a.n, .string e.t.a.s]] u fun q w' => q = .returned (.agg #[.string (putT ps e.t).v, .int .i8 (putT ps e.t).a.k, .int .i64 (putT ps e.t).a.n, .string (putT ps e.t).a.s]) ∧ Below u.heap.size u w') := fun u hu => put_any _ ps e.t u (HLP.out u hu) htw
  have HRES : Hid (apD (putT ps) (d + 1) e = .mk e.op (putT ps e.t) (e.kids.map (apD (putT ps) d))) := rfl
  have hA1 := belowA (w := w) (.cells #[.int .i8 e.op, .string e.t.v, .int .i8 e.t.a.k, .int .i64 e.t.a.n, .string e.t.a.s, .slice a e.kids.length c] 74)
  have hA2 := belowA (w := w.alloc (.cells #[.int .i8 e.op, .string e.t.v, .int .i8 e.t.a.k, .int .i64 e.t.a.n, .string e.t.a.s, .slice a e.kids.length c] 74)) (.cells #[.int .i8 0, .string ⟨#[]⟩, .int .i8 0, .int .i64 0, .string ⟨#[]⟩, .slice none 0 0] 74)
  have HB0 := Lib.hid (hA1.trans (hA2.mono hA1.size))
  have HR0 := Lib.hid ((rl_new w #[.int .i8 e.op, .string e.t.v, .int .i8 e.t.a.k, .int .i64 e.t.a.n, .string e.t.a.s, .slice a e.kids.length c] 74).below hA2)
  have hR1 := rl_new (w.alloc (.cells #[.int .i8 e.op, .string e.t.v, .int .i8 e.t.a.k, .int .i64 e.t.a.n, .string e.t.a.s, .slice a e.kids.length c] 74)) #[.int .i8 0, .string ⟨#[]⟩, .int .i8 0, .int .i64 0, .string ⟨#[]⟩, .slice none 0 0] 74
  rw [World.size_alloc] at hR1
  have HR1 := Lib.hid hR1
  have HSZ : Hid (((w.alloc (.cells #[.int .i8 e.op, .string e.t.v, .int .i8 e.t.a.k, .int .i64 e.t.a.n, .string e.t.a.s, .slice a e.kids.length c] 74)).alloc (.cells #[.int .i8 0, .string ⟨#[]⟩, .int .i8 0, .int .i64 0, .string ⟨#[]⟩, .slice none 0 0] 74)).heap.size = w.heap.size + 2) := by show _ = _; simp
  clear hA1 hA2 hR1 hk ih hop htw hp hx hc1 hc2 hkl
  unfold E.val
  go_enter Tryz.func91, Tryz.ntmps91
  go_upto_region 1 with fail
  generalize (w.alloc (.cells #[.int .i8 e.op, .string e.t.v, .int .i8 e.t.a.k, .int .i64 e.t.a.n, .string e.t.a.s, .slice a e.kids.length c] 74)).alloc (.cells #[.int .i8 0, .string ⟨#[]⟩, .int .i8 0, .int .i64 0, .string ⟨#[]⟩, .slice none 0 0] 74) = W at HB0 HR0 HR1 HSZ ⊢
  have y0 := HR0.out.at (j := 0) rfl
  have y1 := HR0.out.at (j := 1) rfl
  have y2 := HR0.out.at (j := 2) rfl
  have y3 := HR0.out.at (j := 3) rfl
  have y4 := HR0.out.at (j := 4) rfl
  have x0 := (HR0.out.below (belowA (w := W) (.cells #[.int .i8 0, .string ⟨#[]⟩, .int .i8 0, .int .i64 0, .string ⟨#[]⟩, .slice none 0 0] 74))).at (j := 0) rfl
  have x1 := (HR0.out.below (belowA (w := W) (.cells #[.int .i8 0, .string ⟨#[]⟩, .int .i8 0, .int .i64 0, .string ⟨#[]⟩, .slice none 0 0] 74))).at (j := 1) rfl
  have x2 := (HR0.out.below (belowA (w := W) (.cells #[.int .i8 0, .string ⟨#[]⟩, .int .i8 0, .int .i64 0, .string ⟨#[]⟩, .slice none 0 0] 74))).at (j := 2) rfl
  have x3 := (HR0.out.below (belowA (w := W) (.cells #[.int .i8 0, .string ⟨#[]⟩, .int .i8 0, .int .i64 0, .string ⟨#[]⟩, .slice none 0 0] 74))).at (j := 3) rfl
  have x4 := (HR0.out.below (belowA (w := W) (.cells #[.int .i8 0, .string ⟨#[]⟩, .int .i8 0, .int .i64 0, .string ⟨#[]⟩, .slice none 0 0] 74))).at (j := 4) rfl
  go_cut [5] from 7 to 13 (fun p wc => ∃ b, p = .pointer (some ⟨b, 0, none⟩) ∧ Hid (ApS w [.int .i8 e.op, .string e.t.v, .int .i8 e.t.a.k, .int .i64 e.t.a.n, .string e.t.a.s, .slice a e.kids.length c] e.op (putT ps e.t) d b [] none 0 wc))
  case first =>
    go_region_law (
      refine step_call rfl 52 Tryz.func52 (by kernel_rfl) (by kernel_rfl) #[.tmp 9, .tmp 11] _ rfl #[.slice ap ps.length cp, .agg #[.string e.t.v, .int .i8 e.t.a.k, .int .i64 e.t.a.n, .string e.t.a.s]] (by simp [Act.eval, Act.put]) (HP.out _ (by first | exact HB0.out.drew | exact HB0.out.drew.alloc HB0.out.size _ | exact (HB0.out.alloc HB0.out.size _).drew)) ?_
      rintro ee w2 ⟨rfl, b2⟩
      refine ⟨_, rfl, ?_⟩
      have HQ : Hid (Below W.heap.size W w2) := by first | exact (Below.refl W.heap.size W).drew.trans b2 | exact ((Below.refl W.heap.size W).drew.alloc (Nat.le_refl _) _).trans (b2.mono (by simp)) | exact ((Below.refl W.heap.size W).alloc (Nat.le_refl _) _).drew.trans (b2.mono (by simp))
      have q0 := (HR0.out.below HQ.out).at (j := 0) rfl
      have q1 := ((HR0.out.below HQ.out).below (belowA (w := w2) (.cells #[.int .i8 0, .string ⟨#[]⟩, .int .i8 0, .int .i64 0, .string ⟨#[]⟩, .slice none 0 0] 74))).at (j := 0) rfl
      first
        | (have rz : RL w2 W.heap.size 74 [.int .i8 0, .string ⟨#[]⟩, .int .i8 0, .int .i64 0, .string ⟨#[]⟩, .slice none 0 0] := RL.below (rl_new W.drew #[.int .i8 0, .string ⟨#[]⟩, .int .i8 0, .int .i64 0, .string ⟨#[]⟩, .slice none 0 0] 74) b2
           have z0 := rz.at (j := 0) rfl
           have z1 := rz.at (j := 1) rfl
           have z2 := rz.at (j := 2) rfl
           have z3 := rz.at (j := 3) rfl
           have z4 := rz.at (j := 4) rfl
           have z5 := rz.at (j := 5) rfl
           have f0 := World.rowIs.frozen rz 0
           have f1 := World.rowIs.frozen rz 1
           have f2 := World.rowIs.frozen rz 2
           have f3 := World.rowIs.frozen rz 3
           have f4 := World.rowIs.frozen rz 4
           have f5 := World.rowIs.frozen rz 5)
        | skip)
    all_goals
      go_wp2_with fail
      go_meet
      case rel =>
        have hz := HSZ.out
        first
          | (have rz' := rz
             exact ⟨W.heap.size, rfl, aps_new e.op (putT ps e.t) d (HB0.out.trans (HQ.out.mono HB0.out.size)) (by omega) (HR0.out.below HQ.out) (HR1.out.below HQ.out) rz'⟩)
          | exact ⟨w2.heap.size, rfl, aps_new2 e.op (putT ps e.t) d (HB0.out.trans (HQ.out.mono HB0.out.size)) (by have := HQ.out.size; omega) (HR0.out.below HQ.out) (HR1.out.below HQ.out)⟩
  case rest =>
    obtain ⟨b, rfl, HS0⟩ := hcut
    clear x0 x1 x2 x3 x4 y0 y1 y2 y3 y4 HP HB0 HR0 HR1 HSZ HTW
    go_wp2
    go_loopw [6] (fun i wr => ∃ (k : Nat) (xs : List X) (a' : Option Addr) (c' : Nat), k ≤ e.kids.length ∧ i = .int .i64 k ∧ Hid (xs.map X.e = (e.kids.take k).map (apD (putT ps) d)) ∧ Hid (ApS w [.int .i8 e.op, .string e.t.v, .int .i8 e.t.a.k, .int .i64 e.t.a.n, .string e.t.a.s, .slice a e.kids.length c] e.op (putT ps e.t) d b xs a' c' wr)) (fun i _ => e.kids.length - (intOf i).toNat)
    case atStart => exact ⟨0, [], none, 0, Nat.zero_le _, rfl, rfl, HS0⟩
    case round =>
      obtain ⟨k, xs, a', c', hk, rfl, HX, HS⟩ := hrel
      have hxl : xs.length = k := by
        have := congrArg List.length HX.out
        rw [List.length_map, List.length_map, List.length_take] at this
        omega
      have y5 := HS.out.r0.at (j := 5) rfl
      by_cases hlt : k < e.kids.length
      · have hlt' : (k : Int) < (e.kids.length : Int) := by omega
        have hk0 : (0 : Int) ≤ (k : Int) := by omega
        obtain ⟨g, off, rfl, hg, hKS⟩ := HK.out (by omega)
        obtain ⟨a3, c3, hxk, hek⟩ := hKS k hlt
        obtain ⟨z0, z1, z2, z3, z4, z5⟩ := hxk.below HS.out.bel hg
        have HXT : Hid (∀ x : X, x.e = apD (putT ps) d (atE e.kids k) → (xs ++ [x]).map X.e = (e.kids.take (k + 1)).map (apD (putT ps) d)) := fun x hx => by
          rw [takeE hlt, List.map_append, List.map_append, HX.out]
          simp [hx]
        have HI : Hid (∀ u, Below w.heap.size w u → Calls Tryz.prog 91 #[.slice ap ps.length cp, (atE e.kids k).val a3 c3] u fun q w' => ∃ a' c', q = .returned ((apD (putT ps) d (atE e.kids k)).val a' c') ∧ Below u.heap.size u w' ∧ Frs u.heap.size w' (fun _ => False) d (apD (putT ps) d (atE e.kids k)) a' c') := fun u hu => HIH.out _ a3 c3 _ u (hek.below hu) (HKX.out k hlt) (HLP.out u hu)
        unfold E.val at HI
        clear hKS hxk hek HX
        generalize apD (putT ps) d (atE e.kids k) = ke' at HI HXT
        generalize atE e.kids k = ke at HI z0 z1 z2 z3 z4 z5
        have m5 := HS.out.r2.at (j := 5) rfl
        have HOW := Lib.hid HS.out.own
        have HBW := Lib.hid HS.out.bel
        have HBB := Lib.hid HS.out.bb
        subst hxl
        go_wp2_with fail
        go_region_law (first
          | (refine step_call rfl 91 Tryz.func91 (by kernel_rfl) (by kernel_rfl) #[.tmp 23, .tmp 28] _ rfl #[.slice ap ps.length cp, .agg #[.int .i8 ke.op, .string ke.t.v, .int .i8 ke.t.a.k, .int .i64 ke.t.a.n, .string ke.t.a.s, .slice a3 ke.kids.length c3]] (by simp [Act.eval, Act.put]) (HI.out wr.drew HBW.out.drew) ?_
             rintro ee w2 ⟨a4, c4, rfl, b2, hfr⟩
             refine ⟨_, rfl, ?_⟩
             have B2 : Below wr.heap.size wr w2 := (Below.refl wr.heap.size wr).drew.trans b2
             have n5 := (HS.out.r2.below B2).at (j := 5) rfl
             have n6 := ((HS.out.r2.below B2).below (belowA (w := w2) (.cells #[.int .i8 ke'.op, .string ke'.t.v, .int .i8 ke'.t.a.k, .int .i64 ke'.t.a.n, .string ke'.t.a.s, .slice a4 ke'.kids.length c4] 74))).at (j := 5) rfl
             have HB2 := Lib.hid B2
             have HFR := Lib.hid hfr
             have HOWN : Hid ((w2.alloc (.cells #[.int .i8 ke'.op, .string ke'.t.v, .int .i8 ke'.t.a.k, .int .i64 ke'.t.a.n, .string ke'.t.a.s, .slice a4 ke'.kids.length c4] 74)).ownsRow (b + 1) 74 6 (.slice a' xs.length c') xs.length (xs.flatMap X.cells)) := own_below (own_below HS.out.own B2) (belowA _)
             have HC := Lib.hid (lit_news w2 #[.int .i8 ke'.op, .string ke'.t.v, .int .i8 ke'.t.a.k, .int .i64 ke'.t.a.n, .string ke'.t.a.s, .slice a4 ke'.kids.length c4] 74)
             have HSZ : Hid (b + 1 ≤ (w2.alloc (.cells #[.int .i8 ke'.op, .string ke'.t.v, .int .i8 ke'.t.a.k, .int .i64 ke'.t.a.n, .string ke'.t.a.s, .slice a4 ke'.kids.length c4] 74)).heap.size) := by have := HBB.out.2; have := B2.size; show _ ≤ _; simp; omega
             clear B2 b2 hfr)
          | (refine step_append_own rfl (.tmp 22) (.tmp 30) 72 rfl 74 i0 _ 6 80 Tryz.underlying72 hi0 hz0 hz1 hz2 rfl (by decide) (b + 1) (.slice a' xs.length c') xs.length _ (by simp [Act.eval, Act.put]) HOWN.out ⟨w2.heap.size, 0, none⟩ 1 1 [.int .i8 ke'.op, .string ke'.t.v, .int .i8 ke'.t.a.k, .int .i64 ke'.t.a.n, .string ke'.t.a.s, .slice a4 ke'.kids.length c4] (by simp [Act.eval, Act.put]) rfl HC.out (by simp [Value.oneCell']) (by unfold maxLen; omega) (by omega) HSZ.out ?_
             intro v' w3 hown' hgrow hloc
             obtain ⟨a5, c5, rfl, hst, m6, f6⟩ := HS.out.step HB2.out ⟨ke', a4, c4⟩ HFR.out hown' hgrow hloc
             have HST := Lib.hid hst
             clear hown' hgrow hloc hst))
        all_goals
          go_wp2
          go_roundw
          case rel => exact ⟨xs.length + 1, xs ++ [⟨ke', a4, c4⟩], a5, c5, by omega, by go_num, HXT.out _ rfl, HST⟩
          case measure => simp [intOf]; omega
      · obtain rfl : k = e.kids.length := by omega
        rw [List.take_length] at HX
        have HSS := HS
        have g0 := HS.out.r2.at (j := 0) rfl
        have g1 := HS.out.r2.at (j := 1) rfl
        have g2 := HS.out.r2.at (j := 2) rfl
        have g3 := HS.out.r2.at (j := 3) rfl
        have g4 := HS.out.r2.at (j := 4) rfl
        have g5 := HS.out.r2.at (j := 5) rfl
        have o0 := HS.out.r1.at (j := 0) rfl
        have o1 := HS.out.r1.at (j := 1) rfl
        have o2 := HS.out.r1.at (j := 2) rfl
        have o3 := HS.out.r1.at (j := 3) rfl
        have o4 := HS.out.r1.at (j := 4) rfl
        have o5 := HS.out.r1.at (j := 5) rfl
        have f0 := World.rowIs.frozen HS.out.r1 0
        have f1 := World.rowIs.frozen HS.out.r1 1
        have f2 := World.rowIs.frozen HS.out.r1 2
        have f3 := World.rowIs.frozen HS.out.r1 3
        have f4 := World.rowIs.frozen HS.out.r1 4
        have f5 := World.rowIs.frozen HS.out.r1 5
        have hxe : xs.length = (e.kids.map (apD (putT ps) d)).length := by rw [hxl, List.length_map]
        obtain ⟨wf, hwf⟩ : ∃ wf, wf = (((((wr.setCell ⟨w.heap.size + 1, 0, none⟩ (.int .i8 e.op)).setCell ⟨w.heap.size + 1, 1, none⟩ (.string (putT ps e.t).v)).setCell ⟨w.heap.size + 1, 2, none⟩ (.int .i8 (putT ps e.t).a.k)).setCell ⟨w.heap.size + 1, 3, none⟩ (.int .i64 (putT ps e.t).a.n)).setCell ⟨w.heap.size + 1, 4, none⟩ (.string (putT ps e.t).a.s)).setCell ⟨w.heap.size + 1, 5, none⟩ (.slice a' xs.length c') := ⟨_, rfl⟩
        have HD := Lib.hid (HS.out.done HX.out HOP.out (by rw [List.length_map]; omega) HPW.out hwf)
        have HWF := Lib.hid hwf
        have HXE := Lib.hid hxe
        clear hxe hxl hwf HX HSS HIH HK
        go_wp2
        rw [← HWF.out]
        refine bodyPost_ret (rl_results Tryz.results91 (v := .agg #[.int .i8 e.op, .string (putT ps e.t).v, .int .i8 (putT ps e.t).a.k, .int .i64 (putT ps e.t).a.n, .string (putT ps e.t).a.s, .slice a' xs.length c']) rfl (run_loadVar_mid _ _ 0 74 [.int .i8 e.op, .string (putT ps e.t).v, .int .i8 (putT ps e.t).a.k, .int .i64 (putT ps e.t).a.n, .string (putT ps e.t).a.s, .slice a' xs.length c'] _ HD.out.1.range Tryz.underlying74 rfl (by kernel_rfl))) rfl ?_
        refine ⟨a', c', ?_, HD.out.2.1, HD.out.2.2⟩
        rw [HXE.out]
        rfl
end Go.Proofs.YtgplipfebnigiaaGreatDoor
end
