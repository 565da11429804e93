import Derived.Test.YtheihplldbccpaaGreatDoorG15
import Derived.Test.YtheihplldbccpaaGreatDoorG16
namespace Go.Proofs.YtheihplldbccpaaGreatDoor
open Go.RowKit Go.Maps
set_option linter.unusedVariables false
set_option linter.unusedSimpArgs false
attribute [local go_sem ↓] Go.wp_at_zero Go.wp_at_succ
attribute [-go_sem] loadVar storeVar

theorem fd_new (w : World) : Fd w.heap.size (w.heap.size + 1) w.heap.size [] [] (.slice none 0 0) ((w.alloc (.map #[] 0)).alloc (.cells #[.map (some w.heap.size), .slice none 0 0] 73)) := by
  have hA := belowA (w := w.alloc (.map #[] 0)) (.cells #[.map (some w.heap.size), .slice none 0 0] 73)
  have hR := rl_new (w.alloc (.map #[] 0)) #[.map (some w.heap.size), .slice none 0 0] 73
  have hz : (w.alloc (.map #[] 0)).heap.size = w.heap.size + 1 := by simp
  rw [hz] at hR
  refine ⟨hR, World.ownsRow_nil _ _ _ _, (MapV.made w).of_block (hA.block _ (by rw [hz]; omega)), by simp, by simp, fun x hx => (by cases hx), ⟨by omega, Nat.le_refl _, fun x hx => (by cases hx)⟩, ⟨by omega, fun x hx => (by cases hx)⟩, fun g hg => by simp [Value.ownBlock] at hg, fun n hn => (by cases hn)⟩
theorem load_sv {u : World} {a : Addr} {b : Option Addr} {n c : Nat} (h : u.cell? a = some (.slice b n c)) : (loadVar 35 a).run Tryz.prog u = .ok (.slice b n c) u := by rw [loadVar.eq_1]; go_simp
theorem load_s {u : World} {a : Addr} {s : ByteArray} (h : u.cell? a = some (.string s)) : (loadVar 9 a).run Tryz.prog u = .ok (.string s) u := by rw [loadVar.eq_1]; go_simp
/-- names found one behind the other -/
structure Fnd (B bf bm z0 : Nat) (w0 w2 : World) (vs : List Vb) (fs : List ByteArray) (sv : Value) (w : World) : Prop where
  fd : Fd B bf bm vs fs sv w
  bl : Below B w0 w
  fp : ∀ k, FP bf bm vs sv k → k < z0 ∨ w2.heap.size ≤ k
  kp : ∀ k, z0 ≤ k → k < w2.heap.size → w.heap[k]? = w2.heap[k]?
  zz : B ≤ w2.heap.size ∧ w2.heap.size ≤ w.heap.size ∧ B ≤ z0
theorem Fnd.more {B bf bm z0 : Nat} {w0 w2 : World} {vs vs' : List Vb} {fs : List ByteArray} {sv : Value} {w w' : World} {n : ByteArray} (h : Fnd B bf bm z0 w0 w2 vs fs sv w) (hf : Fd B bf bm vs' fs sv w') (hm : ∃ m, vs' = vs ++ m ∧ ∀ y ∈ m, w.heap.size ≤ y.b ∧ y.v = n) (ht : Tz (fun k => k = bm) w w') : Fnd B bf bm z0 w0 w2 vs' fs sv w' := by
  obtain ⟨m, rfl, hm⟩ := hm
  have hz := h.zz
  have hs := ht.size
  refine ⟨hf, Tz.below h.bl ht (by omega) (fun b e => by rw [e]; exact h.fd.lo.2.1), ?_, fun k h1 h2 => ?_, ⟨hz.1, by omega, hz.2.2⟩⟩
  · rintro k (e | e | e | ⟨x, hx, e⟩)
    · exact h.fp k (.inl e)
    · exact h.fp k (.inr (.inl e))
    · exact h.fp k (.inr (.inr (.inl e)))
    · rcases List.mem_append.1 hx with hx | hx
      · exact h.fp k (.inr (.inr (.inr ⟨x, hx, e⟩)))
      · have := (hm x hx).1
        exact .inr (by omega)
  · rw [ht.block k (by omega) (fun e => by have := h.fp k (.inr (.inl e)); omega)]
    exact h.kp k h1 h2
theorem Fnd.found {B bf bm z0 : Nat} {w0 w2 : World} {vs : List Vb} {fs fs' : List ByteArray} {sv sv' : Value} {w w' : World} (h : Fnd B bf bm z0 w0 w2 vs fs sv w) (hf : Fd B bf bm vs fs' sv' w') (ht : Tz (FP bf bm vs sv) w w') (hn : ∀ g, sv'.ownBlock = some g → sv.ownBlock = some g ∨ w.heap.size ≤ g) : Fnd B bf bm z0 w0 w2 vs fs' sv' w' := by
  have hz := h.zz
  have hs := ht.size
  refine ⟨hf, Tz.below h.bl ht (by omega) h.fd.ge, ?_, fun k h1 h2 => ?_, ⟨hz.1, by omega, hz.2.2⟩⟩
  · rintro k (e | e | e | e)
    · exact h.fp k (.inl e)
    · exact h.fp k (.inr (.inl e))
    · rcases hn k e with e | e
      · exact h.fp k (.inr (.inr (.inl e)))
      · exact .inr (by omega)
    · exact h.fp k (.inr (.inr (.inr e)))
  · rw [ht.block k (by omega) (fun e => by have := h.fp k e; omega)]
    exact h.kp k h1 h2
theorem eqL_len : ∀ (d : Nat) (l : List XL), (eqL d l).length ≤ l.length
  | d, [] => Nat.le_refl _
  | d, y :: l => by
    have := eqL_len d l
    unfold eqL at this ⊢
    rw [List.flatMap_cons, List.length_append, List.length_cons]
    have : (eqX d y).length ≤ 1 := by unfold eqX; split <;> simp
    omega
theorem eqL_ok (d : Nat) (l : List XL) : ∀ q ∈ eqL d l, OkQ q := by
  intro q hq
  unfold eqL at hq
  obtain ⟨y, _, hq⟩ := List.mem_flatMap.1 hq
  unfold eqX at hq
  split at hq
  · rw [List.mem_singleton.1 hq]
    exact ⟨sd_ok _ _, sd_ok _ _⟩
  · cases hq
theorem foldl_takeS {l : List ByteArray} {k : Nat} (h : k < l.length) (o : List ByteArray) : (l.take (k + 1)).foldl addN o = addN ((l.take k).foldl addN o) (atS l k) := by rw [takeS h, List.foldl_append]; rfl
theorem foldl_take_len (l : List ByteArray) (k : Nat) : ((l.take k).foldl addN []).length ≤ l.length := by
  have := foldN_len (l.take k) []
  rw [List.length_take] at this
  simp only [List.length_nil] at this
  omega
theorem Rz.names {w : World} {d : Nat} {e : E} {a : Option Addr} {c : Nat} (h : EIs w d e a c) : ∀ n ∈ vsT [] (termsD d e), n.size ≤ maxLen := fun n hn => by
  rcases vsT_mem _ _ _ hn with k | ⟨t, ht, rfl⟩
  · cases k
  · exact (termsD_wf d e a c h t ht).text
theorem av_names {w : World} {v : Value} {d : Nat} {l : List XL} (h : Lb w v d l) : ∀ n ∈ avL l, n.size ≤ maxLen := fun n hn => by
  unfold avL at hn
  obtain ⟨y, hy, hn⟩ := List.mem_flatMap.1 hn
  unfold avX at hn
  split at hn
  · rcases vsT_mem _ _ _ hn with k | ⟨t, ht, rfl⟩
    · cases k
    · exact ((h.each y hy).ts.wf t ht).text
  · cases hn
def slLnC : Option Value → Nat | some (.slice _ n _) => n | _ => 0
/-- the two sides, the equation and add, one behind the other -/
theorem eq_calls {B bf bm bw lb : Nat} {w0 : World} {vs : List Vb} {fs : List ByteArray} {sv svw : Value} {L : List Er} {u : World} {d : Nat} {y : XL} (h : Lst B bf bm bw w0 vs fs sv svw L u) (hL : LIs u (d + 1) y.x y.p) (hB : B ≤ u.heap.size) (hb : RL u lb 55 y.cells) (hlb : ¬ FP bf bm vs sv lb) (hlw : ¬ WP bw svw lb)
    (hs : szD (d + 1) y.x.l ≤ 1048576 ∧ szD (d + 1) y.x.r ≤ 1048576) (hl : L.length ≤ 1000000000) (hEB : ∀ u', Tz (fun k => k = bm) u u' → LIs u' (d + 1) y.x y.p) :
    Calls Tryz.prog 39 #[.pointer (some ⟨bf, 0, none⟩), y.x.l.val y.p.la y.p.lc] u fun e u1 => ∃ o1 a1 n1 c1, e = .returned (.agg #[.pointer o1, .slice a1 n1 c1]) ∧ RL u1 lb 55 y.cells ∧
      Calls Tryz.prog 39 #[.pointer (some ⟨bf, 0, none⟩), y.x.r.val y.p.ra y.p.rc] u1 fun e u2 => ∃ o2 a2 n2 c2, e = .returned (.agg #[.pointer o2, .slice a2 n2 c2]) ∧ RL u2 lb 55 y.cells ∧ RL (u2.alloc (.cells #[.pointer o1, .slice a1 n1 c1, .pointer o2, .slice a2 n2 c2] 87)) lb 55 y.cells ∧
        Calls Tryz.prog 38 #[.pointer (some ⟨bw, 0, none⟩), .pointer (some ⟨u2.heap.size, 0, none⟩)] (u2.alloc (.cells #[.pointer o1, .slice a1 n1 c1, .pointer o2, .slice a2 n2 c2] 87)) fun e u3 => ∃ v3, e = .returned v3 ∧ RL u3 lb 55 y.cells ∧
          ∃ vs' svw' r, r.q = (sdE (d + 1) y.x.l, sdE (d + 1) y.x.r) ∧ Lst B bf bm bw w0 vs' fs sv svw' (L ++ [r]) u3 := by
  have hlen : ∀ e : E, szD (d + 1) e ≤ 1048576 → (vsT [] (termsD (d + 1) e)).length ≤ 1048576 := fun e he => by
    have := vsT_len (termsD (d + 1) e) []
    unfold szD at he
    simp only [List.length_nil] at this
    omega
  have hlb2 : lb ≠ bm := fun e => hlb (.inr (.inl e))
  have hlbl := World.rowIs.lt hb
  refine (side_any h.fd hB d y.x.l y.p.la y.p.lc hL.l hs.1 (hlen _ hs.1) (Rz.names hL.l)).mono ?_
  intro e u1 hsi
  obtain ⟨vs1, l0, x0, a0, c0, rfl, h1, n0, lq0, e0, f0, m0, i0, t1, sub1, _⟩ := h.side hsi
  obtain ⟨o1, ho1⟩ := ptrO_form l0
  have hb1 : RL u1 lb 55 y.cells := World.rowIs.of_block hb (t1.block lb hlbl hlb2)
  refine ⟨o1, a0, x0.length, c0, by rw [ho1], hb1, ?_⟩
  have hL1 := hEB u1 t1
  refine (side_any h1.fd (Nat.le_trans hB t1.size) d y.x.r y.p.ra y.p.rc hL1.r hs.2 (hlen _ hs.2) (Rz.names hL1.r)).mono ?_
  intro e u2 hsi2
  obtain ⟨vs2, l1, x1, a1, c1, rfl, h2, n1, lq1, e1, f1, m1, i1, t2, sub2, hk2⟩ := h1.side hsi2
  obtain ⟨o2, ho2⟩ := ptrO_form l1
  have hb2 : RL u2 lb 55 y.cells := World.rowIs.of_block hb1 (t2.block lb (World.rowIs.lt hb1) hlb2)
  obtain ⟨n0', lq0'⟩ := hk2 a0 c0 x0 n0 lq0
  have hA := belowA (w := u2) (.cells #[ptrO l0, .slice a0 x0.length c0, ptrO l1, .slice a1 x1.length c1] 87)
  have hb3 := hb2.below hA
  refine ⟨o2, a1, x1.length, c1, by rw [ho2], hb2, by rw [← ho1, ← ho2]; exact hb3, ?_⟩
  rw [← ho1, ← ho2]
  refine (add_any (h2.wk.keep (fun k hk => hA.block k (h2.wk.lt k hk))) (Nat.le_trans h2.zz hA.size) u2.heap.size (by rw [List.length_map]; exact hl)).mono ?_
  rintro e u3 ⟨⟨v3, rfl⟩, svw', hw, ht, hn⟩
  obtain ⟨r, hq, h3⟩ := h2.add n0' n1 lq0' lq1 e0 e1 f0 f1 (fun x hx => sub2 x (m0 x hx)) m1 (fun x hx => sub2 x (i0 x hx)) i1 hw ht hn
  exact ⟨v3, rfl, World.rowIs.of_block hb3 (ht.block lb (World.rowIs.lt hb3) hlw), vs2, svw', r, hq, h3⟩
end Go.Proofs.YtheihplldbccpaaGreatDoor
