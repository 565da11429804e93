import Derived.Test.YtlnhnpfgmiffpaaG11
import Derived.Test.YtlnhnpfgmiffpaaG12
import Derived.Test.YtlnhnpfgmiffpaaG13
import Derived.Test.YtlnhnpfgmiffpaaG14
import Derived.Test.YtlnhnpfgmiffpaaG15
import Derived.Test.YtlnhnpfgmiffpaaRpAt
import Derived.Test.YtlnhnpfgmiffpaaRpAtP
import Derived.Test.YtlnhnpfgmiffpaaRpNoSel
namespace Go.Proofs.Ytlnhnpfgmiffpaa
open Go.RowKit Go.Maps Go.Shelf
set_option linter.unusedVariables false
set_option linter.unusedSimpArgs false

/-- the pointers of the two relations: both nil, or both there and of the same rows; E: their blocks -/
inductive Pa (w : World) : Value → Value → List (List Int) → Nat → Int → (Nat → Prop) → Prop
  | nil : Pa w (.pointer none) (.pointer none) [] 0 0 (fun _ => False)
  | live {t m p n : Nat} {sv sv' : Value} {rows : List (List Int)} {gn : Int} (rel : Rel w 0 t m sv rows (n : Int) gn) (rf : Rf w 0 p sv' rows (n : Int) gn) (na : n ≤ 24)
      (ap : p ≠ t ∧ p ≠ m ∧ (∀ g, sv.ownBlock = some g → g ≠ p ∧ sv'.ownBlock ≠ some g) ∧ ∀ g, sv'.ownBlock = some g → g ≠ t ∧ g ≠ m) :
      Pa w (.pointer (some ⟨t, 0, none⟩)) (.pointer (some ⟨p, 0, none⟩)) rows n gn (BoE t m sv p sv')
attribute [local go_sem ↓] Go.wp_at_zero Go.wp_at_succ
set_option maxHeartbeats 800000 in
set_option maxRecDepth 100000 in
theorem gone_yes {w : World} {B t m : Nat} {sv : Value} {rows : List (List Int)} {ar gone : Int} (h : Rel w B t m sv rows ar gone) : Calls Try.prog 49 #[.pointer (some ⟨t, 0, none⟩)] w fun e w' => e = .returned (.int .i64 gone) ∧ w' = w := by
  have c2 := h.rl.at (j := 3) rfl
  have HT := Lib.hid (there_yes h)
  clear h
  go_enter Try.func49, Try.ntmps49
  go_wp2_with fail
  refine HT.out.mono ?_
  rintro e w1 ⟨rfl, rfl⟩
  go_wp2
  go_ret
  exact ⟨rfl, rfl⟩
section
variable {w w' : World} {pT pR : Value} {rows : List (List Int)} {n : Nat} {gn : Int} {E : Nat → Prop}
theorem Pa.keep (h : Pa w pT pR rows n gn E) (hb : Below w.heap.size w w') : Pa w' pT pR rows n gn E := by
  cases h with
  | nil => exact .nil
  | live rel rf na ap => exact .live (rel.keep hb) (rf.keep hb) na ap
theorem Pa.form (h : Pa w pT pR rows n gn E) : pT = .pointer none ∨ ∃ t, pT = .pointer (some ⟨t, 0, none⟩) := by
  cases h with
  | nil => exact .inl rfl
  | live rel rf na ap => exact .inr ⟨_, rfl⟩
theorem Pa.lt (h : Pa w pT pR rows n gn E) {k : Nat} (hk : E k) : k < w.heap.size := by
  cases h with
  | nil => exact hk.elim
  | live rel rf na ap =>
    rcases hk with e | e | e | e | e
    · rw [e]; exact World.rowIs.lt rel.rl
    · rw [e]; exact rel.map.lt
    · rw [e]; exact World.rowIs.lt rf.rl
    · exact (rel.own.lt _ e).2
    · exact (rf.own.lt _ e).2
theorem Pa.ok (h : Pa w pT pR rows n gn E) : ∀ r ∈ rows, RowOk r := by
  cases h with
  | nil => exact fun r hr => (by cases hr)
  | live rel rf na ap => exact rel.ok
theorem Pa.blocks (h : Pa w pT pR rows n gn E) (hb : ∀ k, E k → w'.heap[k]? = w.heap[k]?) : Pa w' pT pR rows n gn E := by
  cases h with
  | nil => exact .nil
  | live rel rf na ap => exact .live (rel.blocks (hb _ (.inl rfl)) (hb _ (.inr (.inl rfl))) (fun g hg => hb _ (.inr (.inr (.inr (.inl hg)))))) (rf.blocks (hb _ (.inr (.inr (.inl rfl)))) (fun g hg => hb _ (.inr (.inr (.inr (.inr hg)))))) na ap
theorem pa_len (h : Pa w pT pR rows n gn E) : Calls Try.prog 9 #[pT] w fun e w' => e = .returned (.int .i64 (rows.length : Int)) ∧ w' = w := by
  cases h with
  | nil => exact len_no .nil
  | live rel rf na ap => exact len_yes rel
theorem pa_rlen (h : Pa w pT pR rows n gn E) : Calls Try.prog 10 #[pR] w fun e w' => e = .returned (.int .i64 (rows.length : Int)) ∧ w' = w := by
  cases h with
  | nil => exact rlen_nil w
  | live rel rf na ap => exact rlen_yes rf
theorem pa_arity (h : Pa w pT pR rows n gn E) : Calls Try.prog 36 #[pT] w fun e w' => e = .returned (.int .i64 (n : Int)) ∧ w' = w := by
  cases h with
  | nil => exact arity_no .nil
  | live rel rf na ap => exact arity_yes rel
theorem pa_rarity (h : Pa w pT pR rows n gn E) : Calls Try.prog 48 #[pR] w fun e w' => e = .returned (.int .i64 (n : Int)) ∧ w' = w := by
  cases h with
  | nil => exact rarity_nil w
  | live rel rf na ap => exact rarity_yes rf
theorem pa_gone (h : Pa w pT pR rows n gn E) : Calls Try.prog 49 #[pT] w fun e w' => e = .returned (.int .i64 gn) ∧ w' = w := by
  cases h with
  | nil => exact gone_no .nil
  | live rel rf na ap => exact gone_yes rel
theorem pa_rgone (h : Pa w pT pR rows n gn E) : Calls Try.prog 50 #[pR] w fun e w' => e = .returned (.int .i64 gn) ∧ w' = w := by
  cases h with
  | nil => exact rgone_nil w
  | live rel rf na ap => exact rgone_yes rf
theorem pa_rrange (h : Pa w pT pR rows n gn E) (hlen : rows.length ≤ 100000000) (f t : Int) : Calls Try.prog 32 #[pR, .int .i64 f, .int .i64 t] w fun e w' => ∃ a c, e = .returned (.slice a (rngN rows f t rows.length).length c) ∧ Wl w' a (rngN rows f t rows.length) ∧ Below w.heap.size w w' := by
  cases h with
  | nil =>
    refine (rrange_nil f t w).mono ?_
    rintro e w' ⟨rfl, rfl⟩
    exact ⟨none, 0, rfl, fun hp => absurd hp (by simp [rngN]), Below.refl _ _⟩
  | live rel rf na ap =>
    refine (rrange_any rf hlen f t).mono ?_
    rintro e w' ⟨a, c, rfl, ho, hb⟩
    exact ⟨a, c, rfl, wl_of_own ho, hb⟩
theorem pa_tells (h : Pa w pT pR rows n gn E) (hlen : rows.length ≤ 100000000) {sq : Value} {f t : Int} (hs : SeqV w sq pT f t) (a : Option Addr) (c : Nat) (hl : Wl w a (rngN rows f t rows.length)) (x : Int) :
    Calls Try.prog 30 #[sq, .slice a (rngN rows f t rows.length).length c, .int .i64 x] w fun e w' => e = .returned (.bool true) ∧ Below w.heap.size w w' := by
  have hr := h.ok
  have e1 := rngN_is rows f t rows.length
  have e2 : (rngN rows f t rows.length).length = min rows.length t.toNat - f.toNat := by rw [e1]; simp
  rw [e2]
  rw [e1] at hl
  obtain ⟨b0, b1, b2, rfl, h0, h1, h2, l0, l1, l2⟩ := hs
  have hrow : ∀ k, k < min rows.length t.toNat - f.toNat → RowOk (rows.getD (f.toNat + k) []) := fun k hk => by
    have hlt : f.toNat + k < rows.length := by omega
    exact hr _ (by rw [List.getD, List.getElem?_eq_getElem hlt]; exact List.getElem_mem hlt)
  have cc : ∀ {W : World} {b : Nat} {v : Value}, Below w.heap.size w W → b < w.heap.size → w.cell? ⟨b, 0, none⟩ = some v → W.cell? ⟨b, 0, none⟩ = some v := fun hW hb hv => (hW.cell (p := ⟨_, 0, none⟩) hb).trans hv
  cases h with
  | nil =>
    refine tells_is (g := b0) (b2 := b2) (fun W hW => ?_) ⟨l0, l2⟩ hrow a c (by omega) hl x
    have : min ([] : List (List Int)).length t.toNat - f.toNat = 0 := by simp
    rw [this]
    exact range_tellsN 7 (cc hW l0 h0) (Nat.lt_of_lt_of_le l0 hW.size) _ _
  | @live t' m p n sv sv' rows gn rel rf na ap =>
    obtain ⟨g, hg, hgs⟩ : ∃ g, g < w.heap.size ∧ ∀ q, sv.ownBlock = some q → q = g := by
      cases e : sv.ownBlock with
      | none => exact ⟨b0, l0, fun q hq => by cases hq⟩
      | some g => exact ⟨g, (rel.own.lt g e).2, fun q hq => (Option.some.inj hq).symm⟩
    refine tells_is (g := g) (b2 := b2) (fun W hW => ?_) ⟨hg, l2⟩ hrow a c (by omega) hl x
    have hz := hW.size
    exact range_tellsG 7 (rel.keep hW) (by omega) g hgs f t (cc hW l0 h0) (cc hW l1 h1) (cc hW l2 h2) ⟨by omega, by omega, by omega⟩
theorem pa_range (h : Pa w pT pR rows n gn E) (i j : Int) : Calls Try.prog 31 #[pT, .int .i64 i, .int .i64 j] w fun e w' => ∃ sq, e = .returned sq ∧ SeqV w' sq pT i j ∧ Below w.heap.size w w' := range_calls h.form i j w
theorem lex_strictP {rs rows : List (List Int)} (nd : rows.Nodup) (hp : rs.Perm rows) (h : ∀ (i j : Nat) x y, i < j → rs[i]? = some x → rs[j]? = some y → ¬ lexI y x < 0) : rs.Pairwise (fun x y => lexI x y < 0) := by
  have nd' : rs.Nodup := hp.nodup_iff.2 nd
  refine List.pairwise_iff_getElem.2 (fun i j hi hj hij => ?_)
  have h1 := h i j _ _ hij (List.getElem?_eq_getElem hi) (List.getElem?_eq_getElem hj)
  have h2 := lexI_swap rs[i] rs[j]
  have h3 : lexI rs[i] rs[j] ≠ 0 := fun e => by
    have := lexI_zero e
    exact absurd this (List.pairwise_iff_getElem.1 nd' i j hi hj hij)
  omega
/-- Sorted of both sides tells the same -/
theorem pa_sorted (h : Pa w pT pR rows n gn E) (hlen : rows.length ≤ 100000000) : Calls Try.prog 34 #[pT] w fun e w' => ∃ S : List (List Int), (∀ r ∈ S, RowOk r) ∧ S.length ≤ 100000000 ∧ (∃ v, e = .returned v ∧ BK.Ls w' v S.length (flatR S)) ∧ Below w.heap.size w w' ∧
    ∀ u, Below w.heap.size w u → Calls Try.prog 35 #[pR] u fun e u' => (∃ v, e = .returned v ∧ BK.Ls u' v S.length (flatR S)) ∧ Below u.heap.size u u' := by
  cases h with
  | nil =>
    refine (sorted_no .nil).mono ?_
    rintro e w' ⟨rfl, rfl⟩
    refine ⟨[], fun r hr => (by cases hr), by simp, ⟨_, rfl, BK.ls_own (World.ownsRow_nil w' 0 40 24)⟩, Below.refl _ _, fun u hu => ?_⟩
    refine (rsorted_nil u).mono ?_
    rintro e u' ⟨⟨a, rfl⟩, hb⟩
    exact ⟨⟨_, rfl, ⟨by simp, a, 0, rfl, Nat.le_refl _, by simp, fun hp => absurd hp (by simp)⟩⟩, hb⟩
  | live rel rf na ap =>
    refine (sorted_yes rel (by omega)).mono ?_
    rintro e w' ⟨a, c, rfl, rs, hp, hs, ho, hb⟩
    have hl : rs.length = rows.length := hp.length_eq
    have hst := lex_strictP rel.nd hp hs
    refine ⟨rs, fun r hr => rel.ok r (hp.mem_iff.1 hr), by omega, ⟨_, rfl, by rw [hl]; exact BK.ls_own ho⟩, hb, fun u hu => ?_⟩
    refine (rsorted_any (rf.keep hu) hlen hp hst).mono ?_
    rintro e u' ⟨a, c, rfl, ho, hb⟩
    exact ⟨⟨_, rfl, by rw [hl]; exact BK.ls_own ho⟩, hb⟩
end
end Go.Proofs.Ytlnhnpfgmiffpaa
