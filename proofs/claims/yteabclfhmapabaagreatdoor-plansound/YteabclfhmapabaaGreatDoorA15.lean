import Derived.Test.YteabclfhmapabaaGreatDoorA14
import Derived.Test.YteabclfhmapabaaGreatDoorA3
import Derived.Test.YteabclfhmapabaaGreatDoorA8
section
namespace Go.Proofs.YteabclfhmapabaaGreatDoor
open Go.RowKit Go.Maps
set_option linter.unusedVariables false
set_option linter.unusedSimpArgs false
attribute [local go_sem ↓] Go.wp_at_zero Go.wp_at_succ
attribute [-go_sem] loadVar storeVar

theorem fd_new (w : World) : Fd w.heap.size (w.heap.size + 1) w.heap.size [] [] (.slice none 0 0) ((w.alloc (.map #[] 0)).alloc (.cells #[.map (some w.heap.size), .slice none 0 0] 106)) := by
  have hA := belowA (w := w.alloc (.map #[] 0)) (.cells #[.map (some w.heap.size), .slice none 0 0] 106)
  have hR := rl_new (w.alloc (.map #[] 0)) #[.map (some w.heap.size), .slice none 0 0] 106
  have hz : (w.alloc (.map #[] 0)).heap.size = w.heap.size + 1 := by simp
  rw [hz] at hR
  refine ⟨hR, World.ownsRow_nil _ _ _ _, (MapV.made w).of_block (hA.block _ (by rw [hz]; omega)), by simp, by simp, fun x hx => (by cases hx), ⟨by omega, Nat.le_refl _, fun x hx => (by cases hx)⟩, ⟨by omega, fun x hx => (by cases hx)⟩, fun g hg => by simp [Value.ownBlock] at hg, fun n hn => (by cases hn)⟩
theorem load_sv {u : World} {a : Addr} {b : Option Addr} {n c : Nat} (h : u.cell? a = some (.slice b n c)) : (loadVar 26 a).run Tryz.prog u = .ok (.slice b n c) u := by rw [loadVar.eq_1]; go_simp
theorem load_s {u : World} {a : Addr} {s : ByteArray} (h : u.cell? a = some (.string s)) : (loadVar 9 a).run Tryz.prog u = .ok (.string s) u := by rw [loadVar.eq_1]; go_simp
/-- names found one behind the other -/
structure Fnd (B bf bm z0 : Nat) (w0 w2 : World) (vs : List Vb) (fs : List ByteArray) (sv : Value) (w : World) : Prop where
  fd : Fd B bf bm vs fs sv w
  bl : Below B w0 w
  fp : ∀ k, FP bf bm vs sv k → k < z0 ∨ w2.heap.size ≤ k
  kp : ∀ k, z0 ≤ k → k < w2.heap.size → w.heap[k]? = w2.heap[k]?
  zz : B ≤ w2.heap.size ∧ w2.heap.size ≤ w.heap.size ∧ B ≤ z0
theorem Fnd.more {B bf bm z0 : Nat} {w0 w2 : World} {vs vs' : List Vb} {fs : List ByteArray} {sv : Value} {w w' : World} {n : ByteArray} (h : Fnd B bf bm z0 w0 w2 vs fs sv w) (hf : Fd B bf bm vs' fs sv w') (hm : ∃ m, vs' = vs ++ m ∧ ∀ y ∈ m, w.heap.size ≤ y.b ∧ y.v = n) (ht : Tz (fun k => k = bm) w w') : Fnd B bf bm z0 w0 w2 vs' fs sv w' := by
  obtain ⟨m, rfl, hm⟩ := hm
  have hz := h.zz
  have hs := ht.size
  refine ⟨hf, Tz.below h.bl ht (by omega) (fun b e => by rw [e]; exact h.fd.lo.2.1), ?_, fun k h1 h2 => ?_, ⟨hz.1, by omega, hz.2.2⟩⟩
  · rintro k (e | e | e | ⟨x, hx, e⟩)
    · exact h.fp k (.inl e)
    · exact h.fp k (.inr (.inl e))
    · exact h.fp k (.inr (.inr (.inl e)))
    · rcases List.mem_append.1 hx with hx | hx
      · exact h.fp k (.inr (.inr (.inr ⟨x, hx, e⟩)))
      · have := (hm x hx).1
        exact .inr (by omega)
  · rw [ht.block k (by omega) (fun e => by have := h.fp k (.inr (.inl e)); omega)]
    exact h.kp k h1 h2
theorem Fnd.found {B bf bm z0 : Nat} {w0 w2 : World} {vs : List Vb} {fs fs' : List ByteArray} {sv sv' : Value} {w w' : World} (h : Fnd B bf bm z0 w0 w2 vs fs sv w) (hf : Fd B bf bm vs fs' sv' w') (ht : Tz (FP bf bm vs sv) w w') (hn : ∀ g, sv'.ownBlock = some g → sv.ownBlock = some g ∨ w.heap.size ≤ g) : Fnd B bf bm z0 w0 w2 vs fs' sv' w' := by
  have hz := h.zz
  have hs := ht.size
  refine ⟨hf, Tz.below h.bl ht (by omega) h.fd.ge, ?_, fun k h1 h2 => ?_, ⟨hz.1, by omega, hz.2.2⟩⟩
  · rintro k (e | e | e | e)
    · exact h.fp k (.inl e)
    · exact h.fp k (.inr (.inl e))
    · rcases hn k e with e | e
      · exact h.fp k (.inr (.inr (.inl e)))
      · exact .inr (by omega)
    · exact h.fp k (.inr (.inr (.inr e)))
  · rw [ht.block k (by omega) (fun e => by have := h.fp k e; omega)]
    exact h.kp k h1 h2
theorem eqL_len : ∀ (d : Nat) (l : List XL), (eqL d l).length ≤ l.length
  | d, [] => Nat.le_refl _
  | d, y :: l => by
    have := eqL_len d l
    unfold eqL at this ⊢
    rw [List.flatMap_cons, List.length_append, List.length_cons]
    have : (eqX d y).length ≤ 1 := by unfold eqX; split <;> simp
    omega
theorem eqL_ok (d : Nat) (l : List XL) : ∀ q ∈ eqL d l, OkQ q := by
  intro q hq
  unfold eqL at hq
  obtain ⟨y, _, hq⟩ := List.mem_flatMap.1 hq
  unfold eqX at hq
  split at hq
  · rw [List.mem_singleton.1 hq]
    exact ⟨sd_ok _ _, sd_ok _ _⟩
  · cases hq
theorem foldl_takeS {l : List ByteArray} {k : Nat} (h : k < l.length) (o : List ByteArray) : (l.take (k + 1)).foldl addN o = addN ((l.take k).foldl addN o) (atS l k) := by rw [takeS h, List.foldl_append]; rfl
theorem foldl_take_len (l : List ByteArray) (k : Nat) : ((l.take k).foldl addN []).length ≤ l.length := by
  have := foldN_len (l.take k) []
  rw [List.length_take] at this
  simp only [List.length_nil] at this
  omega
theorem Rz.names {w : World} {d : Nat} {e : E} {a : Option Addr} {c : Nat} (h : EIs w d e a c) : ∀ n ∈ vsT [] (termsD d e), n.size ≤ maxLen := fun n hn => by
  rcases vsT_mem _ _ _ hn with k | ⟨t, ht, rfl⟩
  · cases k
  · exact (termsD_wf d e a c h t ht).text
theorem av_names {w : World} {v : Value} {d : Nat} {l : List XL} (h : Lb w v d l) : ∀ n ∈ avL l, n.size ≤ maxLen := fun n hn => by
  unfold avL at hn
  obtain ⟨y, hy, hn⟩ := List.mem_flatMap.1 hn
  unfold avX at hn
  split at hn
  · rcases vsT_mem _ _ _ hn with k | ⟨t, ht, rfl⟩
    · cases k
    · exact ((h.each y hy).ts.wf t ht).text
  · cases hn
def slLnC : Option Value → Nat | some (.slice _ n _) => n | _ => 0
/-- the two sides, the equation and add, one behind the other -/
theorem eq_calls {B bf bm bw lb : Nat} {w0 : World} {vs : List Vb} {fs : List ByteArray} {sv svw : Value} {L : List Er} {u : World} {d : Nat} {y : XL} (h : Lst B bf bm bw w0 vs fs sv svw L u) (hL : LIs u (d + 1) y.x y.p) (hB : B ≤ u.heap.size) (hb : RL u lb 53 y.cells) (hlb : ¬ FP bf bm vs sv lb) (hlw : ¬ WP bw svw lb)
    (hs : szD (d + 1) y.x.l ≤ 1048576 ∧ szD (d + 1) y.x.r ≤ 1048576) (hl : L.length ≤ 1000000000) (hEB : ∀ u', Tz (fun k => k = bm) u u' → LIs u' (d + 1) y.x y.p) :
    Calls Tryz.prog 46 #[.pointer (some ⟨bf, 0, none⟩), y.x.l.val y.p.la y.p.lc] u fun e u1 => ∃ o1 a1 n1 c1, e = .returned (.agg #[.pointer o1, .slice a1 n1 c1]) ∧ RL u1 lb 53 y.cells ∧
      Calls Tryz.prog 46 #[.pointer (some ⟨bf, 0, none⟩), y.x.r.val y.p.ra y.p.rc] u1 fun e u2 => ∃ o2 a2 n2 c2, e = .returned (.agg #[.pointer o2, .slice a2 n2 c2]) ∧ RL u2 lb 53 y.cells ∧ RL (u2.alloc (.cells #[.pointer o1, .slice a1 n1 c1, .pointer o2, .slice a2 n2 c2] 120)) lb 53 y.cells ∧
        Calls Tryz.prog 45 #[.pointer (some ⟨bw, 0, none⟩), .pointer (some ⟨u2.heap.size, 0, none⟩)] (u2.alloc (.cells #[.pointer o1, .slice a1 n1 c1, .pointer o2, .slice a2 n2 c2] 120)) fun e u3 => ∃ v3, e = .returned v3 ∧ RL u3 lb 53 y.cells ∧
          ∃ vs' svw' r, r.q = (sdE (d + 1) y.x.l, sdE (d + 1) y.x.r) ∧ Lst B bf bm bw w0 vs' fs sv svw' (L ++ [r]) u3 := by
  have hlen : ∀ e : E, szD (d + 1) e ≤ 1048576 → (vsT [] (termsD (d + 1) e)).length ≤ 1048576 := fun e he => by
    have := vsT_len (termsD (d + 1) e) []
    unfold szD at he
    simp only [List.length_nil] at this
    omega
  have hlb2 : lb ≠ bm := fun e => hlb (.inr (.inl e))
  have hlbl := World.rowIs.lt hb
  refine (side_any h.fd hB d y.x.l y.p.la y.p.lc hL.l hs.1 (hlen _ hs.1) (Rz.names hL.l)).mono ?_
  intro e u1 hsi
  obtain ⟨vs1, l0, x0, a0, c0, rfl, h1, n0, lq0, e0, f0, m0, i0, t1, sub1, _⟩ := h.side hsi
  obtain ⟨o1, ho1⟩ := ptrO_form l0
  have hb1 : RL u1 lb 53 y.cells := World.rowIs.of_block hb (t1.block lb hlbl hlb2)
  refine ⟨o1, a0, x0.length, c0, by rw [ho1], hb1, ?_⟩
  have hL1 := hEB u1 t1
  refine (side_any h1.fd (Nat.le_trans hB t1.size) d y.x.r y.p.ra y.p.rc hL1.r hs.2 (hlen _ hs.2) (Rz.names hL1.r)).mono ?_
  intro e u2 hsi2
  obtain ⟨vs2, l1, x1, a1, c1, rfl, h2, n1, lq1, e1, f1, m1, i1, t2, sub2, hk2⟩ := h1.side hsi2
  obtain ⟨o2, ho2⟩ := ptrO_form l1
  have hb2 : RL u2 lb 53 y.cells := World.rowIs.of_block hb1 (t2.block lb (World.rowIs.lt hb1) hlb2)
  obtain ⟨n0', lq0'⟩ := hk2 a0 c0 x0 n0 lq0
  have hA := belowA (w := u2) (.cells #[ptrO l0, .slice a0 x0.length c0, ptrO l1, .slice a1 x1.length c1] 120)
  have hb3 := hb2.below hA
  refine ⟨o2, a1, x1.length, c1, by rw [ho2], hb2, by rw [← ho1, ← ho2]; exact hb3, ?_⟩
  rw [← ho1, ← ho2]
  refine (add_any (h2.wk.keep (fun k hk => hA.block k (h2.wk.lt k hk))) (Nat.le_trans h2.zz hA.size) u2.heap.size (by rw [List.length_map]; exact hl)).mono ?_
  rintro e u3 ⟨⟨v3, rfl⟩, svw', hw, ht, hn⟩
  obtain ⟨r, hq, h3⟩ := h2.add n0' n1 lq0' lq1 e0 e1 f0 f1 (fun x hx => sub2 x (m0 x hx)) m1 (fun x hx => sub2 x (i0 x hx)) i1 hw ht hn
  exact ⟨v3, rfl, World.rowIs.of_block hb3 (ht.block lb (World.rowIs.lt hb3) hlw), vs2, svw', r, hq, h3⟩
end Go.Proofs.YteabclfhmapabaaGreatDoor
end
section
namespace Go.Proofs.YteabclfhmapabaaGreatDoor
open Go.RowKit Go.Maps
set_option linter.unusedVariables false
set_option linter.unusedSimpArgs false
attribute [local go_sem ↓] Go.wp_at_zero Go.wp_at_succ
attribute [-go_sem] loadVar storeVar

theorem run_makeVs (u : World) : (Instr.makeMap 104 none).run Tryz.prog u = .ok (.map (some u.heap.size)) (u.alloc (.map #[] 0)) := by kernel_rfl
/-- what Limited tells -/
def LmP (B : Nat) (qs : List Qn) (f0 : List ByteArray) (w : World) (e : Ending) (w' : World) : Prop :=
  ∃ sv fs, e = .returned sv ∧ w'.ownsRow B 9 1 sv fs.length (fs.flatMap strB) ∧ Below B w w' ∧ (∃ k, fs = itQ qs k f0) ∧ rndQ qs fs = fs
/-- the rounds: what they found, and what waits -/
structure Itr (qs : List Qn) (f0 fs : List ByteArray) (L : List Er) : Prop where
  it : ∃ k, fs = itQ qs k f0
  wt : Wt fs qs (L.map Er.q)
  ln : fs.length + L.length ≤ 1000000000
theorem Itr.next {qs : List Qn} {f0 fs : List ByteArray} {L L' : List Er} (h : Itr qs f0 fs L) (hok : ∀ q ∈ qs, OkQ q) (hq : L'.map Er.q = (progR (L.map Er.q) fs).2) (hl : (progR (L.map Er.q) fs).1.length + L'.length = fs.length + L.length) : Itr qs f0 (progR (L.map Er.q) fs).1 L' := by
  obtain ⟨k, hk⟩ := h.it
  obtain ⟨h1, h2⟩ := Wt.round qs _ fs hok h.wt
  refine ⟨⟨k + 1, ?_⟩, by rw [hq]; exact h2, by rw [hl]; exact h.ln⟩
  rw [itQ_succ, ← hk, h1]
theorem Itr.still {qs : List Qn} {f0 fs : List ByteArray} {L L' : List Er} (h : Itr qs f0 fs L) (hok : ∀ q ∈ qs, OkQ q) (hq : L'.map Er.q = (progR (L.map Er.q) fs).2) (hl : ¬ L'.length < L.length) : (progR (L.map Er.q) fs).1 = fs ∧ rndQ qs fs = fs := by
  have h0 := progR_len (L.map Er.q) fs
  rw [← hq, List.length_map, List.length_map] at h0
  have h1 := h0.2 (by omega)
  exact ⟨h1, by rw [(Wt.round qs _ fs hok h.wt).1, h1]⟩
set_option maxHeartbeats 6400000 in
set_option maxRecDepth 100000 in
theorem limitedG_any (d : Nat) (v : Value) (l : List XL) (w : World) (hL : Lb w v (d + 1) l) (hts : ∀ i, i < l.length → (atL l i).x.ts.length ≤ 1048576) (hn : (avL l).length ≤ 4194304) (hll : l.length ≤ 4194304) (hsz : ∀ i, i < l.length → szD (d + 1) (atL l i).x.l ≤ 1048576 ∧ szD (d + 1) (atL l i).x.r ≤ 1048576) :
    Calls Tryz.prog 19 #[v] w fun e w' => LmP w.heap.size (eqL (d + 1) l) (atN l) w e w' := by
  have b02 : Below w.heap.size w ((w.alloc (.map #[] 0)).alloc (.cells #[.map (some w.heap.size), .slice none 0 0] 106)) := (belowA (w := w) (.map #[] 0)).trans ((belowA (w := w.alloc (.map #[] 0)) _).mono (by simp))
  have HAT0 := Lib.hid (atomVarsG_any (d + 1) v l _ (hL.below b02) hts hn hll)
  have HFD0 := Lib.hid (fd_new w)
  have HB02 := Lib.hid b02
  have HZ2 : Hid (((w.alloc (.map #[] 0)).alloc (.cells #[.map (some w.heap.size), .slice none 0 0] 106)).heap.size = w.heap.size + 2) := by show _ = _; simp
  have HIS : Hid (∀ i, i < l.length → ∀ u, Below w.heap.size w u → LIs u (d + 1) (atL l i).x (atL l i).p) := fun i hi u hu => (hL.at_is hi).below hu
  have HNM := Lib.hid (av_names hL)
  have HSZ := Lib.hid hsz
  have HOK := Lib.hid (eqL_ok (d + 1) l)
  obtain ⟨qs, hqs⟩ : ∃ qs, eqL (d + 1) l = qs := ⟨_, rfl⟩
  rw [hqs] at HOK ⊢
  have HQS := Lib.hid hqs
  clear hqs
  have HAN : Hid (atN l = (avL l).foldl addN []) := rfl
  have hmf : ∀ (fn : Fn) (first cap : Array Value) (w : World), (Instr.makeFunc fn first cap).run Tryz.prog w = .ok (.func fn first cap) w := fun _ _ _ _ => rfl
  have hmk := run_makeVs w
  obtain ⟨a, c, rfl, hc1, hc2, hat⟩ := hL.form
  have HAT := Lib.hid hat
  clear hat hL hts hsz b02
  generalize avL l = ns at HAT0 HNM HAN hn
  generalize atN l = f0 at HAN
  go_enter Tryz.func19, Tryz.ntmps19
  go_wp2_with fail
  refine HAT0.out.mono ?_
  clear HAT0
  generalize (w.alloc (.map #[] 0)).alloc (.cells #[.map (some w.heap.size), .slice none 0 0] 106) = W2 at HFD0 HB02 HZ2
  rintro ee w2 ⟨sv2, rfl, hown2, b2⟩
  have HLN := ls_own hown2
  have HF2 : Hid (Fnd w.heap.size (w.heap.size + 1) w.heap.size W2.heap.size w w2 [] [] (.slice none 0 0) w2) := by
    have hz := HZ2.out
    have hs := b2.size
    refine ⟨HFD0.out.below b2, HB02.out.trans (b2.mono (by omega)), ?_, fun _ _ _ => rfl, ⟨by omega, Nat.le_refl _, by omega⟩⟩
    rintro k (e | e | e | ⟨x, hx, _⟩)
    · exact .inl (by omega)
    · exact .inl (by omega)
    · simp [Value.ownBlock] at e
    · cases hx
  have HOB : Hid (∀ g, sv2.ownBlock = some g → W2.heap.size ≤ g ∧ g < w2.heap.size) := fun g hg => hown2.lt g hg
  obtain ⟨a2, c2, rfl, hnl0, hnl1, hnt⟩ := ls_str HLN
  have HNG : Hid (0 < ns.length → ∃ g off, a2 = some ⟨g, off, none⟩ ∧ W2.heap.size ≤ g ∧ g < w2.heap.size ∧ ∀ i, i < ns.length → w2.cell? ⟨g, off + i, none⟩ = some (.string (atS ns i))) := fun h0 => by
    obtain ⟨g, off, ha, hg, hc⟩ := hnt h0
    subst ha
    have hob : (Value.slice (some ⟨g, off, none⟩) ns.length c2).ownBlock = some g := by
      have h1 := hown2
      obtain ⟨_, ⟨h2, _⟩ | ⟨g2, cap, cur, h2, _⟩⟩ := h1
      · cases h2
      · injection h2 with h2 _ _
        injection h2 with h2
        injection h2 with h2 _ _
        subst h2
        rfl
    exact ⟨g, off, rfl, (HOB.out g hob).1, hg, hc⟩
  clear hnt hnl0 hnl1 hown2 b2 HLN HOB HFD0 HB02 HZ2
  go_wp2
  go_loopw [15] (fun i wr => ∃ (k : Nat) (vs : List Vb) (fs : List ByteArray) (sv : Value), k ≤ ns.length ∧ i = .int .i64 k ∧ Hid (fs = (ns.take k).foldl addN []) ∧ Hid (Fnd w.heap.size (w.heap.size + 1) w.heap.size W2.heap.size w w2 vs fs sv wr)) (fun i _ => ns.length - (intOf i).toNat)
  case atStart => exact ⟨0, [], [], .slice none 0 0, Nat.zero_le _, rfl, rfl, HF2⟩
  case round =>
    clear HF2
    obtain ⟨k, vs, fs, sv, hk, rfl, HFS, HF⟩ := hrel
    obtain ⟨U, rfl⟩ : ∃ U, U = wr := ⟨_, rfl⟩
    by_cases hlt : k < ns.length
    · have hlt' : (k : Int) < (ns.length : Int) := by omega
      have hk0 : (0 : Int) ≤ (k : Int) := by omega
      obtain ⟨g2, off2, rfl, hgl, hgu, hcs⟩ := HNG.out (by omega)
      have hx0 : (loadVar 9 ⟨g2, off2 + k, none⟩).run Tryz.prog U = .ok (.string (atS ns k)) U := load_s (by rw [World.cell?_of_block (w := w2) (HF.out.kp g2 hgl hgu)]; exact hcs k hlt)
      have HNX := Lib.hid (foldl_takeS hlt [])
      rw [← HFS.out] at HNX
      have hfl : fs.length ≤ 1000000000 := by
        have := foldl_take_len ns k
        rw [← HFS.out] at this
        omega
      have HV := Lib.hid (variable_any HF.out.fd (Nat.le_trans HF.out.zz.1 HF.out.zz.2.1) (atS ns k) (HNM.out _ (by rw [atS_eq hlt]; exact List.getElem_mem hlt)))
      generalize atS ns k = nm at hx0 HNX HV
      clear hcs HFS
      go_wp2_with fail
      refine HV.out.mono ?_
      rintro ee w3 ⟨vs', x, rfl, hx, hxv, hm, hf, ht⟩
      have HF3 := Lib.hid (HF.out.more hf hm ht)
      have HC := Lib.hid (find_any HF3.out.fd (Nat.le_trans HF3.out.zz.1 HF3.out.zz.2.1) x hx hfl)
      have HXV := Lib.hid hxv
      clear hx hxv hm hf ht HV HF
      unfold ptrV
      go_wp2_with fail
      refine HC.out.mono ?_
      rintro ee w4 ⟨⟨u, rfl⟩, sv', hf, ht, hn'⟩
      have HF4 := Lib.hid (HF3.out.found hf ht hn')
      clear hf ht hn' HC HF3
      rw [HXV.out, ← HNX.out] at HF4
      go_wp2
      go_roundw
      case rel => exact ⟨k + 1, vs', _, sv', by omega, by go_num, rfl, HF4⟩
      case measure => simp [intOf]; omega
    · obtain rfl : k = ns.length := by omega
      rw [List.take_length, ← HAN.out] at HFS
      obtain rfl : fs = f0 := HFS.out
      have HL0 : Hid (Lst w.heap.size (w.heap.size + 1) w.heap.size U.heap.size w vs fs sv (.slice none 0 0) [] (U.alloc (.cells #[.slice none 0 0] 112))) := by
        have hb := belowA (w := U) (.cells #[.slice none 0 0] 112)
        have hz := HF.out.zz
        refine ⟨HF.out.fd.below hb, ⟨fun r hr => (by cases hr), by simp, fun r hr => (by cases hr)⟩, ⟨rl_new U #[.slice none 0 0] _, World.ownsRow_nil _ _ _ _, fun g hg => by simp [Value.ownBlock] at hg⟩, ?_, HF.out.bl.trans (hb.mono (by omega)), fun r hr => (by cases hr), by omega, by simp; omega⟩
        rintro j (e | e)
        · exact ⟨fun hf => by have := HF.out.fd.lt j hf; omega, fun r hr => (by cases hr)⟩
        · simp [Value.ownBlock] at e
      have hfl : fs.length ≤ 4194304 := by
        have := foldN_len ns []
        rw [← HAN.out] at this
        simp only [List.length_nil] at this
        omega
      clear HFS HF HNM HNG hlt hk
      go_wp2
      clear hmk
      generalize U.alloc (.cells #[.slice none 0 0] 112) = W3 at HL0 ⊢
      generalize U.heap.size = bw at HL0 ⊢
      go_loopw [27] (fun i wr => ∃ (k : Nat) (vs : List Vb) (svw : Value) (L : List Er), k ≤ l.length ∧ i = .int .i64 k ∧ Hid (L.map Er.q = eqL (d + 1) (l.take k)) ∧ Hid (Lst w.heap.size (w.heap.size + 1) w.heap.size bw w vs fs sv svw L wr)) (fun i _ => l.length - (intOf i).toNat)
      case atStart => exact ⟨0, vs, .slice none 0 0, [], Nat.zero_le _, rfl, rfl, HL0⟩
      case round =>
        clear HL0
        obtain ⟨k, vs, svw, L, hk, rfl, HLQ, HS⟩ := hrel
        obtain ⟨V, rfl⟩ : ∃ V, V = wr := ⟨_, rfl⟩
        have hlen : L.length ≤ k := by
          have h1 := congrArg List.length HLQ.out
          have h2 := eqL_len (d + 1) (l.take k)
          rw [List.length_map] at h1
          rw [List.length_take] at h2
          omega
        by_cases hlt : k < l.length
        · have hlt' : (k : Int) < (l.length : Int) := by omega
          have hk0 : (0 : Int) ≤ (k : Int) := by omega
          obtain ⟨g, off, rfl, hg, hT⟩ := HAT.out (by omega)
          have r1 := range_below (hT k hlt) HS.out.bl hg
          have HNX0 := Lib.hid (eqL_take (d := d + 1) hlt)
          rw [← HLQ.out] at HNX0
          have HXI := Lib.hid (HIS.out k hlt)
          have HXZ := Lib.hid (HSZ.out k hlt)
          obtain ⟨y, hy⟩ : ∃ y, atL l k = y := ⟨_, rfl⟩
          rw [hy] at r1 HNX0 HXI HXZ
          have hld := load_Lit r1 rfl
          have hst : (storeVar 53 ⟨V.heap.size, 0, none⟩ (.agg y.cells.toArray)).run Tryz.prog (V.alloc (.cells #[.int .i8 0, .string ⟨#[]⟩, .slice none 0 0, .int .i8 0, .int .i8 0, .string ⟨#[]⟩, .int .i8 0, .int .i64 0, .string ⟨#[]⟩, .slice none 0 0, .int .i8 0, .string ⟨#[]⟩, .int .i8 0, .int .i64 0, .string ⟨#[]⟩, .slice none 0 0] 53)) = .ok () (V.alloc (.cells y.cells.toArray 53)) := run_storeVar_new V 53 #[.int .i8 0, .string ⟨#[]⟩, .slice none 0 0, .int .i8 0, .int .i8 0, .string ⟨#[]⟩, .int .i8 0, .int .i64 0, .string ⟨#[]⟩, .slice none 0 0, .int .i8 0, .string ⟨#[]⟩, .int .i8 0, .int .i64 0, .string ⟨#[]⟩, .slice none 0 0] y.cells.toArray (by kernel_rfl) rfl (oneCells_lit _)
          have BA := belowA (w := V) (.cells y.cells.toArray 53)
          have HRN := Lib.hid (rl_new V y.cells.toArray 53)
          have HS2 := Lib.hid (HS.out.below BA)
          have HLB : Hid (¬ FP (w.heap.size + 1) w.heap.size vs sv V.heap.size ∧ ¬ WP bw svw V.heap.size) := ⟨fun e => by have := HS.out.fd.lt _ e; omega, fun e => by have := HS.out.wk.lt _ e; omega⟩
          clear hT r1 hy BA HS
          generalize V.alloc (.cells y.cells.toArray 53) = W1 at hst HRN HS2
          obtain ⟨hf1, hf2, -, -⟩ := lit_fields (y := y) HRN.out
          generalize Value.agg y.cells.toArray = QV at hld hst
          by_cases hq : y.x.k = 3 ∧ y.x.rel = 1
          · have e1 : (y.x.k == 3) = true := by rw [hq.1]; rfl
            have e2 : (y.x.rel == 1) = true := by rw [hq.2]; rfl
            have HQX : Hid (∀ r : Er, r.q = (sdE (d + 1) y.x.l, sdE (d + 1) y.x.r) → (L ++ [r]).map Er.q = eqL (d + 1) (l.take (k + 1))) := fun r hr => by
              rw [HNX0.out, List.map_append, List.map_cons, List.map_nil, hr]
              unfold eqX
              rw [if_pos hq]
            have hD : Below W1.heap.size W1 W1.drew := (Below.refl _ _).drew
            have HC := Lib.hid (eq_calls (d := d) (HS2.out.below hD) (HXI.out _ (HS2.out.below hD).bl) (Nat.le_trans HS2.out.zz hD.size) (RL.below HRN.out hD) HLB.out.1 HLB.out.2 HXZ.out (by omega) (fun u' ht => HXI.out u' (Tz.below (HS2.out.below hD).bl ht (Nat.le_trans HS2.out.zz hD.size) (fun b e => by rw [e]; exact Nat.le_refl _))))
            have HRD := Lib.hid (RL.below HRN.out hD)
            have HFL : Hid (∀ u, RL u V.heap.size 53 y.cells → (loadVar 51 ⟨V.heap.size, 4, none⟩).run Tryz.prog u = .ok (y.x.l.val y.p.la y.p.lc) u ∧ (loadVar 51 ⟨V.heap.size, 10, none⟩).run Tryz.prog u = .ok (y.x.r.val y.p.ra y.p.rc) u) := fun u hu => ⟨(lit_fields hu).2.2.1, (lit_fields hu).2.2.2⟩
            clear hq HXI HXZ HNX0 HS2 HLB hD HRN HLQ
            generalize y.x.l.val y.p.la y.p.lc = EL at HC HFL
            generalize y.x.r.val y.p.ra y.p.rc = ER at HC HFL
            go_upto_region 12 with fail
            clear hf1 hf2 e1 e2 hld hst
            refine wp_region_noPanic ?_
            refine wp_region_held (S := fun u => RL u V.heap.size 53 y.cells) (by kernel_rfl) ?_
            refine lmreg12 (w5 := W1) (S := fun u => RL u V.heap.size 53 y.cells) (bf := w.heap.size + 1) (bw := bw) (lb := V.heap.size) (EL := EL) (ER := ER) (P := fun u => ∃ vs' svw' r, r.q = (sdE (d + 1) y.x.l, sdE (d + 1) y.x.r) ∧ Lst w.heap.size (w.heap.size + 1) w.heap.size bw w vs' fs sv svw' (L ++ [r]) u) rfl rfl rfl rfl rfl rfl rfl rfl rfl rfl rfl (by kernel_rfl) (by kernel_rfl) (by kernel_rfl) (by kernel_rfl) (by kernel_rfl) (by kernel_rfl) (by kernel_rfl) (fun _ _ _ _ _ h => h) (by simp) rfl rfl rfl HRD.out (fun _ _ _ h => h) (fun u hu => (HFL.out u hu).1) (fun u hu => (HFL.out u hu).2) HC.out ?_
            intro wc u2 o1 o2 a1 a2 n1 n2 c1 c2 v3 hP
            obtain ⟨vs', svw', r, hrq, hS3⟩ := hP
            have HS3 := Lib.hid hS3
            have HRQ := Lib.hid (HQX.out r hrq)
            clear hS3 hrq HC HFL HRD HQX
            refine NoPanic.normal ?_
            rename_i hK
            refine hK _ _ ?_
            simp (config := { maxSteps := 8000000 }) only [Act.put, List.getElem_toArray, List.getElem_cons_zero, List.getElem_cons_succ, List.setIfInBounds_toArray, List.set_cons_succ, List.set_cons_zero]
            go_wp2
            go_roundw
            case rel => exact ⟨k + 1, vs', svw', L ++ [r], by omega, by go_num, HRQ, HS3⟩
            case measure => simp [intOf]; omega
          · have HQX : Hid (L.map Er.q = eqL (d + 1) (l.take (k + 1))) := by
              show _ = _
              rw [HNX0.out]
              unfold eqX
              rw [if_neg hq, List.append_nil]
            clear HNX0 HXI HXZ HLB HRN HLQ
            by_cases h1 : y.x.k = 3
            · have e1 : (y.x.k == 3) = true := by rw [h1]; rfl
              have e2 : (y.x.rel == 1) = false := by rw [beq_eq_false_iff_ne]; exact fun h2 => hq ⟨h1, h2⟩
              clear h1 hq
              go_wp2
              go_roundw
              case rel => exact ⟨k + 1, vs, svw, L, by omega, by go_num, HQX, HS2⟩
              case measure => simp [intOf]; omega
            · have e1 : (y.x.k == 3) = false := by rw [beq_eq_false_iff_ne]; exact h1
              clear h1 hq
              go_wp2
              go_roundw
              case rel => exact ⟨k + 1, vs, svw, L, by omega, by go_num, HQX, HS2⟩
              case measure => simp [intOf]; omega
        · obtain rfl : k = l.length := by omega
          rw [List.take_length] at HLQ
          have HIT : Hid (Itr qs fs fs L) := ⟨⟨0, rfl⟩, by rw [HLQ.out, HQS.out]; exact Wt.all _ _, by omega⟩
          clear HLQ hlt hk hlen HAT HIS HSZ HAN
          go_wp2
          go_loopw [] (fun wr => ∃ (fs' : List ByteArray) (sv' svw' : Value) (L' : List Er), Hid (Itr qs fs fs' L') ∧ Hid (Lst w.heap.size (w.heap.size + 1) w.heap.size bw w vs fs' sv' svw' L' wr)) (fun wr => slLnC (wr.cell? ⟨bw, 0, none⟩))
          case atStart => exact ⟨fs, sv, svw, L, HIT, HS⟩
          case round =>
            clear HIT HS hfl
            obtain ⟨fs1, sv1, svw1, L1, HIT, HS⟩ := hrel
            obtain ⟨X, rfl⟩ : ∃ X, X = wr := ⟨_, rfl⟩
            have HC := Lib.hid (round_any HS.out.fd HS.out.eq HS.out.wk HS.out.wa HS.out.zz HIT.out.ln)
            have HM0 : Hid (slLnC (X.cell? ⟨bw, 0, none⟩) = L1.length) := by
              show _ = _
              have h1 := HS.out.wk.r.at (j := 0) rfl
              obtain ⟨sa, sc, e, _⟩ := own_form HS.out.wk.own
              rw [h1, e]
              exact List.length_map _
            unfold solveF at HC
            go_wp2_with fail
            refine HC.out.mono ?_
            intro e w4 hr
            obtain ⟨sv4, svw4, L4, rfl, hq4, hl4, hS4⟩ := HS.out.round hr
            have HIT4 := Lib.hid (HIT.out.next HOK.out hq4 hl4)
            have HS4 := Lib.hid hS4
            have HST : Hid (¬ L4.length < L1.length → (progR (L1.map Er.q) fs1).1 = fs1 ∧ rndQ qs fs1 = fs1) := fun h => HIT.out.still HOK.out hq4 h
            clear hr hq4 hl4 hS4 HC
            by_cases hb : L4.length < L1.length
            · have HM4 : Hid (slLnC (w4.cell? ⟨bw, 0, none⟩) < slLnC (X.cell? ⟨bw, 0, none⟩)) := by
                show _ < _
                have h1 := HS4.out.wk.r.at (j := 0) rfl
                obtain ⟨sa, sc, e, _⟩ := own_form HS4.out.wk.own
                rw [HM0.out, h1, e]
                show (L4.map Er.be).length < _
                rw [List.length_map]
                exact hb
              rw [decide_eq_true hb]
              clear HS HIT HST HM0 hb
              go_wp2
              go_roundw
              case rel => exact ⟨_, sv4, svw4, L4, HIT4, HS4⟩
              case measure => exact HM4.out
            · rw [decide_eq_false hb]
              obtain ⟨hs1, hs2⟩ := HST.out hb
              rw [hs1] at HS4 HIT4
              have hr4 := HS4.out.fd.r
              obtain ⟨sa, sc, e, _⟩ := own_form HS4.out.fd.own
              subst e
              have hq1 := load_sv (hr4.at (j := 1) rfl)
              have HP : Hid (LmP w.heap.size qs fs w (.returned (.slice sa fs1.length sc)) w4) := ⟨_, fs1, rfl, HS4.out.fd.own, HS4.out.bl, HIT4.out.it, hs2⟩
              clear HS HIT HST HM0 hb HS4 HIT4 hs1 hs2 hr4 HOK
              go_wp2
              go_ret
              exact HP.out
theorem limited_any (d : Nat) (v : Value) (l : List XL) (w : World) (hL : Lb w v (d + 1) l) (hts : ∀ i, i < l.length → (atL l i).x.ts.length ≤ 1048576) (hn : (avL l).length ≤ 1048576) (hll : l.length ≤ 1048576) (hsz : ∀ i, i < l.length → szD (d + 1) (atL l i).x.l ≤ 1048576 ∧ szD (d + 1) (atL l i).x.r ≤ 1048576) :
    Calls Tryz.prog 19 #[v] w fun e w' => LmP w.heap.size (eqL (d + 1) l) (atN l) w e w' :=
  limitedG_any d v l w hL hts (by omega) (by omega) hsz
end Go.Proofs.YteabclfhmapabaaGreatDoor
end
section
namespace Go.Proofs.YteabclfhmapabaaGreatDoor
open Go.RowKit Go.Maps Go.ChangeMaps
set_option linter.unusedVariables false
set_option linter.unusedSimpArgs false
attribute [local go_sem ↓] Go.wp_at_zero Go.wp_at_succ

/-! plan.known: a set of names -/
theorem SetIs.lookK {w : World} {b : Nat} {ss : List ByteArray} (h : SetIs w b ss) {s : ByteArray} (hs : s.size ≤ maxLen) :
    (Instr.lookup 78 (.map (some b)) (.string s) true).run Tryz.prog w = .ok (.tuple #[.agg #[], .bool (inB ss s)]) w := by
  obtain ⟨es, c, hb, hes, hw⟩ := h
  have hl := keyOf_s s hs
  rcases keyedS.find w hl es.toList (sents_keys hes hw) with ⟨h1, h2⟩ | ⟨j, e, h1, h2, h3⟩
  · have hi : inB ss s = false := Bool.eq_false_iff.2 (fun hh => sents_no hes h2 (inB_iff.1 hh))
    rw [hi]
    simp [Instr.lookup, run_underlying Tryz.underlying78, MapKept.run_getObj_map hb, keyedS.check w _ hl, h1, Result.andThen, zeroNone]
  · obtain ⟨p, hp, hk, hval⟩ := sents_at hes h2
    have e : p = s := by
      have := hk.symm.trans h3
      injection this
    have hi : inB ss s = true := inB_iff.2 (e ▸ List.mem_of_getElem? hp)
    rw [hi]
    simp [Instr.lookup, run_underlying Tryz.underlying78, MapKept.run_getObj_map hb, keyedS.check w _ hl, h1, hval, Result.andThen]
/-- a name more -/
theorem SetIs.putK {w : World} {b : Nat} {ss : List ByteArray} (h : SetIs w b ss) {s : ByteArray} (hs : s.size ≤ maxLen) (hn : s ∉ ss) :
    ∃ w', (Instr.mapUpdate 78 (.map (some b)) (.string s) (.agg #[])).run Tryz.prog w = .ok () w' ∧ SetIs w' b (ss ++ [s]) ∧ w.mapTurned w' b := by
  obtain ⟨es, c, hb, hes, hw⟩ := h
  have hl := keyOf_s s hs
  rcases keyedS.find w hl es.toList (sents_keys hes hw) with ⟨h1, h2⟩ | ⟨j, e, h1, h2, h3⟩
  · refine ⟨setBlock w b (.map (es.push ⟨.string s, .agg #[], c⟩) (c + 1)), by simp [Instr.mapUpdate, run_underlying Tryz.underlying78, MapKept.run_getObj_map hb, keyedS.check w false hl, h1, MapKept.run_setObj_map _ hb, Result.andThen, setBlock], ⟨_, _, heap_setBlock_same hb _, by simp [hes], ?_⟩, ?_⟩
    · intro p hp
      rcases List.mem_append.1 hp with hp | hp
      · exact hw p hp
      · simp at hp
        subst hp
        exact hs
    · exact ⟨es, c, _, _, hb, rfl⟩
  · obtain ⟨p, hp, hk, hval⟩ := sents_at hes h2
    refine absurd (List.mem_of_getElem? hp) ?_
    have e : p = s := by
      have := hk.symm.trans h3
      injection this
    rw [e]
    exact hn

attribute [-go_sem] loadVar Builtin.append_
set_option maxHeartbeats 800000 in
theorem kn_has {w : World} {b : Nat} {ss : List ByteArray} (h : SetIs w b ss) {s : ByteArray} (hs : s.size ≤ maxLen) :
    Calls Tryz.prog 59 #[.map (some b), .string s] w fun e w' => e = .returned (.bool (inB ss s)) ∧ Below w.heap.size w w' := by
  have hl := h.lookK hs
  have HB : Hid (Below w.heap.size w (w.alloc (.cells #[] 155))) := (Below.refl _ _).alloc (Nat.le_refl _) _
  clear h
  go_enter Tryz.func59, Tryz.ntmps59
  go_wp2
  go_ret
  exact ⟨rfl, HB.out⟩
set_option maxHeartbeats 800000 in
theorem kn_learn {w : World} {b : Nat} {ss : List ByteArray} (h : SetIs w b ss) {s : ByteArray} (hs : s.size ≤ maxLen) (hn : s ∉ ss) :
    Calls Tryz.prog 56 #[.map (some b), .string s] w fun e w' => (∃ u, e = .returned u) ∧ SetIs w' b (ss ++ [s]) ∧ w.mapTurned w' b := by
  obtain ⟨w', hrun, hset, hturn⟩ := h.putK hs hn
  have HF := Lib.hid (And.intro hset hturn)
  clear h hset hturn
  go_enter Tryz.func56, Tryz.ntmps56
  go_wp2
  go_end0
  exact ⟨⟨_, rfl⟩, HF.out⟩
theorem pl_push {w0 u : World} {B : Nat} {a : Option Addr} {c : Nat} {out : List ByteArray} (x : ByteArray) (own : u.ownsRow B 9 1 (.slice a out.length c) out.length (out.flatMap strB)) (hb : Below B w0 u) (hB : B ≤ w0.heap.size) (hl : out.length ≤ 1000000000) :
    ∃ a6 c6 w5, (Builtin.append_ #[26, 26] 26 #[.slice a out.length c, .slice (some ⟨u.heap.size, 0, none⟩) 1 1]).run Tryz.prog (u.alloc (.cells #[.string x] 9)) = .ok (.slice a6 (out.length + 1) c6) w5 ∧ w5.ownsRow B 9 1 (.slice a6 (out ++ [x]).length c6) (out ++ [x]).length ((out ++ [x]).flatMap strB) ∧ Below B w0 w5 := by
  obtain ⟨i0, hi0, hz0, hz1, hz2⟩ := info_parts infoStrL
  have hA := belowA (w := u) (.cells #[.string x] 9)
  have hzu : B ≤ u.heap.size := Nat.le_trans hB hb.size
  have hb5 : Below B w0 (u.alloc (.cells #[.string x] 9)) := hb.trans (hA.mono hzu)
  have hz5 : B ≤ (u.alloc (.cells #[.string x] 9)).heap.size := Nat.le_trans hzu hA.size
  have ho := own_below own hA
  obtain ⟨v', w5, hrun, hown', hgrow, hnil, hloc⟩ := run_append_own_at (P := Tryz.prog) (u.alloc (.cells #[.string x] 9)) B 26 26 9 i0 _ 1 16 Tryz.underlying26 hi0 hz0 hz1 hz2 rfl (by decide) _ _ _ ho ⟨_, 0, none⟩ 1 1 [.string x] rfl (lit_news _ #[.string x] _) (by simp [Value.oneCell']) (by unfold maxLen; omega) (by omega) hz5
  obtain ⟨a6, c6, rfl, _⟩ := own_form hown'
  refine ⟨a6, c6, w5, hrun, ?_, hb5.grown hgrow hz5 (fun j hj => (ho.lt j hj).1)⟩
  rw [List.length_append, List.flatMap_append]
  exact hown'
/-- what is not known -/
def lackL (ss l : List ByteArray) : List ByteArray := l.filter (fun n => !inB ss n)
theorem lackL_take {ss l : List ByteArray} {k : Nat} (hk : k < l.length) : lackL ss (l.take (k + 1)) = if inB ss (atS l k) = true then lackL ss (l.take k) else lackL ss (l.take k) ++ [atS l k] := by
  have e : l[k]? = some (atS l k) := by
    unfold atS
    rw [List.getD, List.getElem?_eq_getElem hk]
    rfl
  unfold lackL
  rw [List.take_add_one, e, List.filter_append]
  by_cases h : inB ss (atS l k) = true
  · rw [if_pos h]
    simp [h]
  · rw [if_neg h]
    simp [h]
theorem lackL_len (ss l : List ByteArray) : (lackL ss l).length ≤ l.length := List.length_filter_le _ _
theorem load_strP {u : World} {a : Addr} {s : ByteArray} (h : u.cell? a = some (.string s)) : (loadVar 9 a).run Tryz.prog u = .ok (.string s) u := by rw [loadVar.eq_1]; go_simp
set_option maxHeartbeats 1600000 in
set_option maxRecDepth 100000 in
theorem kn_lacks {w : World} {b : Nat} {ss : List ByteArray} (h : SetIs w b ss) {v : Value} {l : List ByteArray} (hl : Ls w v l.length (l.flatMap strB)) (hsz : ∀ i, i < l.length → (atS l i).size ≤ maxLen) (hn : l.length ≤ 1048576) :
    Calls Tryz.prog 52 #[.map (some b), v] w fun e w' => ∃ a c, e = .returned (.slice a (lackL ss l).length c) ∧ w'.ownsRow w.heap.size 9 1 (.slice a (lackL ss l).length c) (lackL ss l).length ((lackL ss l).flatMap strB) ∧ Below w.heap.size w w' := by
  have HS := Lib.hid h
  have HZ := Lib.hid hsz
  obtain ⟨a, c, rfl, hc1, hc2, hat⟩ := ls_str hl
  have HAT := Lib.hid hat
  have HO0 : Hid (w.ownsRow w.heap.size 9 1 (.slice none (lackL ss (l.take 0)).length 0) (lackL ss (l.take 0)).length ((lackL ss (l.take 0)).flatMap strB) ∧ Below w.heap.size w w) := ⟨World.ownsRow_nil _ _ _ _, Below.refl _ _⟩
  clear h hl hsz hat
  go_enter Tryz.func52, Tryz.ntmps52
  go_wp2
  go_loopw [5, 10] (fun sv i wr => ∃ (k : Nat) (a' : Option Addr) (c' : Nat), k ≤ l.length ∧ i = .int .i64 k ∧ sv = .slice a' (lackL ss (l.take k)).length c' ∧ Hid (wr.ownsRow w.heap.size 9 1 (.slice a' (lackL ss (l.take k)).length c') (lackL ss (l.take k)).length ((lackL ss (l.take k)).flatMap strB) ∧ Below w.heap.size w wr)) (fun _ i _ => l.length - (intOf i).toNat)
  case atStart => exact ⟨0, none, 0, Nat.zero_le _, rfl, rfl, HO0.out⟩
  case round =>
    obtain ⟨k, a', c', hk, rfl, rfl, HI⟩ := hrel
    clear HO0
    by_cases hlt : k < l.length
    · have hlt' : (k : Int) < (l.length : Int) := by omega
      have hk0 : (0 : Int) ≤ (k : Int) := by omega
      obtain ⟨g, off, rfl, hg, hce⟩ := HAT.out (by omega)
      have l1 := load_strP ((HI.out.2.cell (p := ⟨g, off + k, none⟩) hg).trans (hce k hlt))
      have HHS := Lib.hid (kn_has (HS.out.of_block (HI.out.2.block b HS.out.lt)) (HZ.out k hlt))
      have HLT := Lib.hid (lackL_take (ss := ss) hlt)
      have hll : (lackL ss (l.take k)).length ≤ 1048576 := Nat.le_trans (lackL_len _ _) (by rw [List.length_take]; omega)
      generalize lackL ss (l.take k) = out at HI HLT hll ⊢
      generalize atS l k = x at l1 HHS HLT
      clear hce
      go_wp2_with fail
      refine HHS.out.mono ?_
      rintro e w2 ⟨rfl, b2⟩
      have HO2 := Lib.hid (own_below HI.out.1 b2)
      have HB2 := Lib.hid (HI.out.2.trans (b2.mono HI.out.2.size))
      clear HHS b2 l1 HI
      cases hi : inB ss x
      · rw [hi] at HLT
        rw [if_neg (by decide)] at HLT
        obtain ⟨a6, c6, w5, hrun, hown, hb5⟩ := pl_push x HO2.out HB2.out (Nat.le_refl _) (by omega)
        have HF := Lib.hid (And.intro hown hb5)
        clear hown hb5 HO2 HB2 hi
        go_wp2
        go_roundw
        case rel => exact ⟨k + 1, a6, c6, by omega, by go_num, by rw [HLT.out, List.length_append]; rfl, by rw [HLT.out]; exact HF.out⟩
        case measure => simp [intOf]; omega
      · rw [hi, if_pos rfl] at HLT
        clear hi
        go_wp2
        go_roundw
        case rel => exact ⟨k + 1, a', c', by omega, by go_num, by rw [HLT.out], by rw [HLT.out]; exact ⟨HO2.out, HB2.out⟩⟩
        case measure => simp [intOf]; omega
    · obtain rfl : k = l.length := by omega
      rw [List.take_length] at HI
      rw [List.take_length]
      go_wp2
      go_ret
      exact ⟨a', c', rfl, HI.out⟩
end Go.Proofs.YteabclfhmapabaaGreatDoor
end
