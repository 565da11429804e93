import Derived.Test.YtoppgalbmijhdaaGreatDoorSoSort
import Derived.Deep.Upon
import Derived.Maps.AppendAt
import Derived.OwnWalk
import Derived.Deep.RegionWith
namespace Go.Proofs.YtoppgalbmijhdaaGreatDoor
open Go.RowKit Go.Maps
set_option linter.unusedVariables false
set_option linter.unusedSimpArgs false
attribute [local go_sem ↓] Go.wp_at_zero Go.wp_at_succ

theorem belowA {w : World} (o : Obj) : Below w.heap.size w (w.alloc o) := (Below.refl _ _).alloc (Nat.le_refl _) _
/-- append(x, y...), x a row of the call's own, y any list, of elements of any number of cells -/
theorem run_app_ls {w : World} {b : Nat} {v : Value} {n size bytes : Nat} {xs : List Value} (t ty e : TypeId) (i : TypeInfo) (z : Value) (ht : Tryz.prog.underlying t = some (.slice e)) (hi : Tryz.prog.info? e = some i) (hz : i.zero = some z) (hsize : i.size = size) (hby : i.bytes = bytes) (hzs : z.cells.size = size) (hsz : 0 < size)
    (hown : w.ownsRow b e size v n xs) {a : Option Addr} {c m : Nat} {news : List Value} (hl : Ls w (.slice a m c) m news) (hlen : news.length = m * size) (h1 : ∀ u ∈ news, u.oneCell' = true) (hmax : n + m ≤ maxLen) (hbd : (n + m) * bytes ≤ 140737488355328) (hb : b ≤ w.heap.size) :
    ∃ v' w', (Builtin.append_ #[t, t] ty #[v, .slice a m c]).run Tryz.prog w = .ok v' w' ∧ w'.ownsRow b e size v' (n + m) (xs ++ news) ∧ w.grownBy w' v.ownBlock ∧ (v'.ownBlock = v.ownBlock ∨ v'.ownBlock = some w.heap.size) := by
  by_cases h0 : m = 0
  · subst h0
    have hn : news = [] := List.eq_nil_of_length_eq_zero (by simpa using hlen)
    subst hn
    have hv : ∃ ba sc, v = .slice ba n sc ∧ n ≤ sc := by
      rcases hown.2 with ⟨rfl, rfl⟩ | ⟨g, cap, cur, rfl, _, _, hnc, _, _, _⟩
      · exact ⟨none, 0, rfl, Nat.le_refl _⟩
      · exact ⟨_, _, rfl, hnc⟩
    obtain ⟨ba, sc, rfl, hsc⟩ := hv
    refine ⟨_, _, run_append_nothing w _ _ ty _ i ht hi ba n sc hsc _ ⟨.inl ⟨_, ht⟩, by intro w'; cases a <;> simp [Builtin.lenOf], by cases a <;> simp [Builtin.firstCells, loadCells, loadCellsFrom], by cases a <;> simp [Builtin.firstCells, loadCells, loadCellsFrom], by simp, by simp⟩, ?_, ⟨rfl, rfl, rfl, Nat.le_refl _, fun _ _ _ => rfl⟩, .inl rfl⟩
    simpa using hown
  · obtain ⟨hn, a', c', hv, _, _, hc⟩ := hl
    cases hv
    obtain ⟨g, off, rfl, _, hf⟩ := hc (by omega)
    obtain ⟨v', w', e1, e2, e3, _, e5⟩ := run_append_own_at (P := Tryz.prog) w b t ty e i z size bytes ht hi hz hsize hby hzs hsz v n xs hown ⟨g, off, none⟩ m c news hlen (fun j u hu => by
      obtain ⟨hj, he⟩ := List.getElem?_eq_some_iff.1 hu
      have := hf j hj
      rw [he] at this
      rw [show (⟨g, off, none⟩ : Addr).add j = ⟨g, off + j, none⟩ from by simp [Addr.add]]
      exact this) h1 hmax hbd hb
    exact ⟨v', w', e1, e2, e3, e5⟩
theorem infoVs : (Tryz.prog.info? 55).map (fun i => (i.zero, i.size, i.bytes)) = some (some (.agg #[.int .i8 0, .int .i64 0, .string ⟨#[]⟩]), 3, 32) := by kernel_rfl
theorem infoFs : (Tryz.prog.info? 31).map (fun i => (i.zero, i.size, i.bytes)) = some (some (.agg #[.string ⟨#[]⟩, .slice none 0 0]), 2, 40) := by kernel_rfl
theorem infoTs : (Tryz.prog.info? 29).map (fun i => (i.zero, i.size, i.bytes)) = some (some (.slice none 0 0), 1, 24) := by kernel_rfl
theorem info_partsS {e : TypeId} {z : Value} {a b : Nat} (h : (Tryz.prog.info? e).map (fun i => (i.zero, i.size, i.bytes)) = some (some z, a, b)) : ∃ i, Tryz.prog.info? e = some i ∧ i.zero = some z ∧ i.size = a ∧ i.bytes = b := by
  obtain ⟨i, hi, he⟩ := Option.map_eq_some_iff.1 h
  simp only [Prod.mk.injEq] at he
  exact ⟨i, hi, he.1, he.2.1, he.2.2⟩
theorem cellsV_one (l : List V) : ∀ u ∈ l.flatMap V.cells, u.oneCell' = true := by
  intro u hu
  obtain ⟨t, _, ht⟩ := List.mem_flatMap.1 hu
  simp [V.cells] at ht
  rcases ht with rfl | rfl | rfl <;> rfl
theorem cellsF_one (l : List XF) : ∀ u ∈ l.flatMap XF.cells, u.oneCell' = true := by
  intro u hu
  obtain ⟨t, _, ht⟩ := List.mem_flatMap.1 hu
  simp [XF.cells] at ht
  rcases ht with rfl | rfl <;> rfl
/-- a fact whose list lies in blocks from lo on, but for those of ex: it stays while these stay -/
def FrF (lo : Nat) (wr : World) (ex : Nat → Prop) (y : XF) : Prop :=
  ∀ w'' : World, wr.heap.size ≤ w''.heap.size → (∀ k, lo ≤ k → k < wr.heap.size → ¬ ex k → w''.heap[k]? = wr.heap[k]?) → FIs w'' y
theorem FrF.is {lo : Nat} {wr : World} {ex : Nat → Prop} {y : XF} (h : FrF lo wr ex y) : FIs wr y := h wr (Nat.le_refl _) (fun _ _ _ _ => rfl)
theorem FrF.keep {lo : Nat} {wr wr' : World} {ex ex' : Nat → Prop} {y : XF} (h : FrF lo wr ex y) (hs : wr.heap.size ≤ wr'.heap.size) (hag : ∀ k, lo ≤ k → k < wr.heap.size → ¬ ex k → wr'.heap[k]? = wr.heap[k]?) (hex : ∀ k, k < wr.heap.size → ex' k → ex k) : FrF lo wr' ex' y :=
  fun w'' h1 h2 => h w'' (Nat.le_trans hs h1) (fun k k1 k2 k3 => (h2 k k1 (Nat.lt_of_lt_of_le k2 hs) (fun e => k3 (hex k k2 e))).trans (hag k k1 k2 k3))
/-- a fact whose list is a row of a call's own -/
theorem frF_own {lo : Nat} {wr : World} {y : XF} (hp : y.pr.size ≤ maxLen) (hn : y.vs.length ≤ 281474976710656) (hw : ∀ v ∈ y.vs, v.wf) (own : wr.ownsRow lo 55 3 (.slice y.a y.vs.length y.c) y.vs.length (y.vs.flatMap V.cells)) : FrF lo wr (fun _ => False) y :=
  fun w'' h1 h2 => ⟨hp, hn, ⟨ls_own (own_of_block own (fun g hg => h2 g (own.lt g hg).1 (own.lt g hg).2 (fun e => e))), hw⟩⟩
/-- what grows: a row of facts (or tuples), each with its own list -/
structure EoS (ty : TypeId) (k : Nat) (cel : XF → List Value) (B : Nat) (out : List XF) (a' : Option Addr) (c' : Nat) (wr : World) : Prop where
  own : wr.ownsRow B ty k (.slice a' out.length c') out.length (out.flatMap cel)
  fr : ∀ y ∈ out, FrF B wr (fun j => (Value.slice a' out.length c').ownBlock = some j) y
theorem EoS.keep {ty : TypeId} {k : Nat} {cel : XF → List Value} {B : Nat} {out : List XF} {a' : Option Addr} {c' : Nat} {wr wr' : World} (h : EoS ty k cel B out a' c' wr) (hb : Below wr.heap.size wr wr') : EoS ty k cel B out a' c' wr' :=
  ⟨own_below h.own hb, fun y hy => (h.fr y hy).keep hb.size (fun j _ hj _ => hb.block j hj) (fun _ _ e => e)⟩
theorem eoS_nil (ty : TypeId) (k : Nat) (cel : XF → List Value) (B : Nat) (wr : World) : EoS ty k cel B [] none 0 wr := ⟨World.ownsRow_nil _ _ _ _, fun y hy => absurd hy (by simp)⟩
/-- one more: y's list was laid since U -/
theorem EoS.step {ty : TypeId} {k : Nat} {cel : XF → List Value} {B : Nat} {out : List XF} {a' : Option Addr} {c' : Nat} {U w2 w3 : World} (h : EoS ty k cel B out a' c' U) (hB : B ≤ U.heap.size) (b2 : Below U.heap.size U w2) (y : XF) (hy : FrF U.heap.size w2 (fun _ => False) y) {o : Obj} {v' : Value}
    (hown' : w3.ownsRow B ty k v' (out.length + 1) (out.flatMap cel ++ cel y)) (hgrow : (w2.alloc o).grownBy w3 (Value.slice a' out.length c').ownBlock) (hloc : v'.ownBlock = (Value.slice a' out.length c').ownBlock ∨ v'.ownBlock = some (w2.alloc o).heap.size) :
    ∃ a2 c2, v' = .slice a2 (out.length + 1) c2 ∧ EoS ty k cel B (out ++ [y]) a2 c2 w3 ∧ ∀ {W : World}, Below B W U → Below B W w3 := by
  obtain ⟨a2, c2, rfl, _⟩ := own_form hown'
  have hA := belowA (w := w2) o
  have hb2 := b2.trans (hA.mono b2.size)
  have hlt := fun g (hg : (Value.slice a' out.length c').ownBlock = some g) => h.own.lt g hg
  have hs3 := hgrow.size
  have hs2 := hb2.size
  have hsz : w2.heap.size + 1 = (w2.alloc o).heap.size := by simp
  have hl1 : (out ++ [y]).length = out.length + 1 := by simp
  have hnew : ∀ j, (Value.slice a2 (out.length + 1) c2).ownBlock = some j → (Value.slice a' out.length c').ownBlock = some j ∨ j = (w2.alloc o).heap.size := fun j hj => by
    rcases hloc with l | l
    · rw [l] at hj; exact .inl hj
    · rw [l] at hj; exact .inr (Option.some.inj hj).symm
  refine ⟨a2, c2, rfl, ⟨by rw [hl1, List.flatMap_append]; simpa using hown', fun z hz => ?_⟩, fun hW => ?_⟩
  · rw [hl1]
    rcases List.mem_append.1 hz with hz | hz
    · refine (h.fr z hz).keep (by omega) (fun j j1 j2 j3 => ?_) (fun j hj e => ?_)
      · exact (hgrow.block j (by omega) (fun e => j3 e.symm)).trans (hb2.block j j2)
      · rcases hnew j e with e | e
        · exact e
        · omega
    · obtain rfl := List.mem_singleton.1 hz
      intro w'' s1 s2
      refine hy w'' (by omega) (fun j j1 j2 _ => ?_)
      have hne : (Value.slice a' out.length c').ownBlock ≠ some j := fun e => by have := (hlt j e).2; omega
      rw [s2 j (by omega) (by omega) (fun e => ?_), hgrow.block j (by omega) (fun e => hne e.symm), hA.block j j2]
      rcases hnew j e with e | e
      · exact hne e
      · omega
  · exact (hW.trans (hb2.mono hB)).grown hgrow (by omega) (fun j hj => (hlt j hj).1)
attribute [-go_sem] Builtin.append_
set_option maxHeartbeats 1600000 in
theorem copyTuple_any (a : Option Addr) (c : Nat) (l : List V) (w : World) (hl : Lv w (.slice a l.length c) l) (hn : l.length ≤ 1048576) :
    Calls Tryz.prog 73 #[.slice a l.length c] w fun e w' => ∃ a' c', e = .returned (.slice a' l.length c') ∧ w'.ownsRow w.heap.size 55 3 (.slice a' l.length c') l.length (l.flatMap V.cells) ∧ Below w.heap.size w w' := by
  obtain ⟨i0, hi0, hz0, hz1, hz2⟩ := info_partsS infoVs
  obtain ⟨v', w1, hr, ho, hg, hloc⟩ := run_app_ls (w := w) (b := w.heap.size) (v := .slice none 0 0) (n := 0) (xs := []) 29 29 55 i0 _ Tryz.underlying29 hi0 hz0 hz1 hz2 rfl (by decide) (World.ownsRow_nil _ _ _ _) hl.lies (flat_len V.cells 3 (fun _ => rfl) l) (cellsV_one l) (by unfold maxLen; omega) (by omega) (Nat.le_refl _)
  rw [Nat.zero_add, List.nil_append] at ho
  obtain ⟨a', c', rfl, _⟩ := own_form ho
  have HF : Hid (w1.ownsRow w.heap.size 55 3 (.slice a' l.length c') l.length (l.flatMap V.cells) ∧ Below w.heap.size w w1) := ⟨ho, (Below.refl _ _).grown hg (Nat.le_refl _) (fun j hj => by cases hj)⟩
  clear ho hg hloc hl
  go_enter Tryz.func73, Tryz.ntmps73
  go_wp2
  go_ret
  exact ⟨a', c', rfl, HF.out⟩
end Go.Proofs.YtoppgalbmijhdaaGreatDoor
