import Derived.Test.YtlnhnpfgmiffpaaRpAmN
import Derived.Test.YtlnhnpfgmiffpaaRpQ2
import Derived.Test.YtlnhnpfgmiffpaaRpQ4
namespace Go.Proofs.Ytlnhnpfgmiffpaa
open Go.RowKit Go.Maps Go.Shelf
set_option linter.unusedVariables false
set_option linter.unusedSimpArgs false

/-- what a call on a pair leaves -/
def Dp (w : World) (b : Nat) (ty : TypeId) (l : List Value) (o : Nat) (pT pR : Value) (rows : List (List Int)) (n : Nat) (gn : Int) (E K : Nat → Prop) (e : Ending) (w' : World) : Prop :=
  e = .returned (.bool true) ∧ ∃ l' kv' f' t' rows' gn' E' K', St w' b ty l' o pT pR kv' f' t' rows' n gn' E' K' ∧ (∀ j, j < o ∨ o + 5 ≤ j → l'[j]? = l[j]?) ∧ l'.length = l.length ∧ rows'.length ≤ rows.length + 1 ∧ (gn' = gn ∨ gn' = gn + 1) ∧
    (∀ k, E' k → E k ∨ w.heap.size ≤ k) ∧ (∀ k, K' k → K k ∨ w.heap.size ≤ k) ∧ BK.Tch (fun k => E k ∨ k = b) w w'
section
variable {w w' : World} {b o : Nat} {ty : TypeId} {l : List Value} {pT pR kv : Value} {f t : Int} {rows : List (List Int)} {n : Nat} {gn : Int} {E K : Nat → Prop} {e : Ending}
theorem dp_below (h : St w b ty l o pT pR kv f t rows n gn E K) (hp : e = .returned (.bool true) ∧ Below w.heap.size w w') : Dp w b ty l o pT pR rows n gn E K e w' :=
  ⟨hp.1, l, kv, f, t, rows, gn, E, K, h.keep hp.2, fun _ _ => rfl, rfl, by omega, .inl rfl, fun k hk => .inl hk, fun k hk => .inl hk, BK.Tch.of_below hp.2⟩
/-- with one more block ahead -/
theorem Dp.after {W : World} (hb : Below w.heap.size w W) (h : Dp W b ty l o pT pR rows n gn E K e w') : Dp w b ty l o pT pR rows n gn E K e w' := by
  obtain ⟨he, l', kv', f', t', rows', gn', E', K', h1, h2, h3, h4, h5, h6, h7, h8⟩ := h
  have hz := hb.size
  exact ⟨he, l', kv', f', t', rows', gn', E', K', h1, h2, h3, h4, h5, fun k hk => (h6 k hk).imp id (fun e => by omega), fun k hk => (h7 k hk).imp id (fun e => by omega), (BK.Tch.of_below hb).trans h8⟩
theorem dp_bo {t' m p : Nat} {sv sv' sv2 sv2' : Value} {rows2 : List (List Int)} {gn2 : Int} (h : St w b ty l o (.pointer (some ⟨t', 0, none⟩)) (.pointer (some ⟨p, 0, none⟩)) kv f t rows n gn (BoE t' m sv p sv') K) (hz : ∀ k, BoE t' m sv p sv' k → k < w.heap.size)
    (hb : Bo w' b o 0 t' m sv2 p sv2' rows2 n gn2) (l1 : LocB w sv sv2) (l2 : LocB w sv' sv2') (tc : BK.Tch (BoE t' m sv p sv') w w') (hl2 : rows2.length ≤ rows.length + 1) (hg2 : gn2 = gn ∨ gn2 = gn + 1) :
    Dp w b ty l o (.pointer (some ⟨t', 0, none⟩)) (.pointer (some ⟨p, 0, none⟩)) rows n gn (BoE t' m sv p sv') K (.returned (.bool true)) w' := by
  have hE : ∀ k, BoE t' m sv2 p sv2' k → BoE t' m sv p sv' k ∨ w.heap.size ≤ k := fun k hk => by
    rcases hk with e | e | e | e | e
    · exact .inl (.inl e)
    · exact .inl (.inr (.inl e))
    · exact .inl (.inr (.inr (.inl e)))
    · exact (l1 k e).imp (fun e => .inr (.inr (.inr (.inl e)))) id
    · exact (l2 k e).imp (fun e => .inr (.inr (.inr (.inr e)))) id
  have bl := World.rowIs.lt h.rl
  refine ⟨rfl, l, kv, f, t, rows2, gn2, BoE t' m sv2 p sv2', K, ⟨World.rowIs.of_block h.rl (tc.block b bl h.nb.1), h.i0, h.i1, h.i2, h.i3, h.i4, .live hb.rel hb.rf hb.na hb.ap, h.kp.blocks tc.size (fun k hk => tc.block k (h.kp.lt hk) (fun e => h.dj k e hk)), fun k hk hk2 => ?_, fun e => ?_, h.nb.2⟩, fun _ _ => rfl, rfl, hl2, hg2, hE, fun k hk => .inl hk, tc.mono (fun k _ hk => .inl hk)⟩
  · rcases hE k hk with e | e
    · exact h.dj k e hk2
    · have := h.kp.lt hk2; omega
  · rcases hE b e with e | e
    · exact h.nb.1 e
    · omega
theorem St.bo {t' m p : Nat} {sv sv' : Value} (h : St w b ty l o (.pointer (some ⟨t', 0, none⟩)) (.pointer (some ⟨p, 0, none⟩)) kv f t rows n gn (BoE t' m sv p sv') K) (rel : Rel w 0 t' m sv rows (n : Int) gn) (rf : Rf w 0 p sv' rows (n : Int) gn) (na : n ≤ 24)
    (ap : p ≠ t' ∧ p ≠ m ∧ (∀ g, sv.ownBlock = some g → g ≠ p ∧ sv'.ownBlock ≠ some g) ∧ ∀ g, sv'.ownBlock = some g → g ≠ t' ∧ g ≠ m) : Bo w b o 0 t' m sv p sv' rows n gn :=
  ⟨World.rowIs.lt h.rl, h.rl.at h.i0, h.rl.at h.i1, rel, rf, na, ap, ⟨fun e => h.nb.1 (.inl e), fun e => h.nb.1 (.inr (.inl e)), fun e => h.nb.1 (.inr (.inr (.inl e))), fun e => h.nb.1 (.inr (.inr (.inr (.inl e)))), fun e => h.nb.1 (.inr (.inr (.inr (.inr e))))⟩⟩
theorem wrap_gn (h : 0 ≤ gn ∧ gn ≤ 1000000000) : IntKind.i64.wrap (gn + 1) = gn + 1 := by rw [IntKind.wrap_i64]; omega
theorem does_add (h : St w b ty l o pT pR kv f t rows n gn E K) (hlen : rows.length ≤ 50000000) (on nn m mask : Int) (r : List Int) (hr : RowOk r) :
    Calls Try.prog 8 #[.pointer (some ⟨b, o, none⟩), .agg (opL on 1 nn m mask r).toArray] w (Dp w b ty l o pT pR rows n gn E K) := by
  have hpa := h.pa
  cases hpa with
  | nil => exact (does_1n (World.rowIs.lt h.rl) (h.rl.at h.i0) (h.rl.at h.i1) on nn m mask r hr.len).mono fun e w' hp => dp_below h hp
  | live rel rf na ap =>
    have hbo := h.bo rel rf na ap
    refine (bo_add hbo (Nat.zero_le _) (by omega) on nn m mask r hr).mono fun e w' hp => ?_
    obtain ⟨rfl, ⟨sv2, sv2', hb, l1, l2⟩, tc⟩ := hp
    exact dp_bo h (fun k hk => hbo.ltE hk) hb l1 l2 tc (addRows_len _ _ _) (.inl rfl)
theorem does_rem (h : St w b ty l o pT pR kv f t rows n gn E K) (hlen : rows.length ≤ 50000000) (hgn : 0 ≤ gn ∧ gn ≤ 1000000000) (on nn m mask : Int) (r : List Int) (hr : RowOk r) :
    Calls Try.prog 8 #[.pointer (some ⟨b, o, none⟩), .agg (opL on 4 nn m mask r).toArray] w (Dp w b ty l o pT pR rows n gn E K) := by
  have hpa := h.pa
  cases hpa with
  | nil => exact (does_4n (World.rowIs.lt h.rl) (h.rl.at h.i0) (h.rl.at h.i1) on nn m mask r hr.len).mono fun e w' hp => dp_below h hp
  | live rel rf na ap =>
    have hbo := h.bo rel rf na ap
    refine (bo_remove hbo (Nat.zero_le _) (by omega) (wrap_gn hgn) on nn m mask r hr).mono fun e w' hp => ?_
    obtain ⟨rfl, ⟨sv2, sv2', hb, l1, l2⟩, tc⟩ := hp
    exact dp_bo h (fun k hk => hbo.ltE hk) hb l1 l2 tc (by have := remRows_len rows r; omega) (by unfold remG; split <;> simp)
theorem does_rng (h : St w b ty l o pT pR kv f t rows n gn E K) (hlen : rows.length ≤ 100000000) (on nn m mask : Int) (r : List Int) (hr : r.length = 24) :
    Calls Try.prog 8 #[.pointer (some ⟨b, o, none⟩), .agg (opL on 6 nn m mask r).toArray] w fun e w' => e = .returned (.bool true) ∧ Below w.heap.size w w' := by
  have hb := belowA (w := w) (.cells (opL on 6 nn m mask r).toArray 42)
  refine does_ask on 6 nn m mask r hr (by decide) (by decide) (by decide) (by decide) (by decide) (by decide) ?_
  exact (asks_6 (h.keep hb).bx (by omega) on nn m mask r).mono fun e w' hp => ⟨hp.1, hb.trans (hp.2.mono hb.size)⟩
theorem amid_any (h : St w b ty l o pT pR kv f t rows n gn E K) (hlen : rows.length ≤ 50000000) (hgn : 0 ≤ gn ∧ gn ≤ 1000000000) (on k nn m mask : Int) (r : List Int) (hr : RowOk r) :
    Calls Try.prog 47 #[.pointer (some ⟨b, o, none⟩), .agg (opL on k nn m mask r).toArray] w (Dp w b ty l o pT pR rows n gn E K) := by
  have hpa := h.pa
  cases hpa with
  | nil => exact (amid_nil h.bx on k nn m mask r).mono fun e w' hp => dp_below h hp
  | live rel rf na ap =>
    have hbo := h.bo rel rf na ap
    refine (amid_live hbo hlen (wrap_gn hgn) on k nn m mask r hr).mono fun e w' hp => ?_
    obtain ⟨rfl, ⟨sv2, sv2', rows2, gn2, hb, l1, l2, hl, hg⟩, tc⟩ := hp
    exact dp_bo h (fun k hk => hbo.ltE hk) hb l1 l2 tc hl hg
end
end Go.Proofs.Ytlnhnpfgmiffpaa
