import Derived.Test.YteabclfhmapabaaDoorPlRs
import Derived.RangeFuncBox
import Derived.RangeFuncWrites
namespace Go.Proofs.YteabclfhmapabaaDoor
open Go.RowKit Go.Maps Go.Shelf
set_option linter.unusedVariables false
set_option linter.unusedSimpArgs false
attribute [local go_sem ↓] Go.wp_at_zero Go.wp_at_succ
attribute [local go_sem] Oper.semAt_some

/-- what is left of a world whose cells stay -/
structure Ck (n0 : Nat) (A W : World) : Prop where
  os : W.os = A.os
  tape : W.tape = A.tape
  output : W.output = A.output
  size : A.heap.size ≤ W.heap.size
  low : ∀ k, k < n0 → W.heap[k]? = A.heap[k]?
  cells : ∀ (k : Nat) (cs : Array Value) (t : TypeId) (z : Nat × Nat), A.heap[k]? = some (Obj.cells cs t z) → W.heap[k]? = some (Obj.cells cs t z)
theorem Ck.refl (n0 : Nat) (A : World) : Ck n0 A A := ⟨rfl, rfl, rfl, Nat.le_refl _, fun _ _ => rfl, fun _ _ _ _ h => h⟩
theorem ck_own {β : Type} {n0 B : Nat} {A : World} (hn : n0 ≤ A.heap.size) (hB : n0 ≤ B) : OwnFrom B (fun (_ : β) W => Ck n0 A W) := by
  intro s W W' row hs hg hr
  refine ⟨hg.os.trans hs.os, hg.tape.trans hs.tape, hg.output.trans hs.output, Nat.le_trans hs.size hg.size, fun k hk => ?_, fun k cs t z hk => ?_⟩
  · rw [hg.block k (by have := hs.size; omega) (fun e => by have := (hr k e.symm).1; omega)]
    exact hs.low k hk
  · have h1 := hs.cells k cs t z hk
    rw [hg.block k (Array.getElem?_eq_some_iff.1 h1).1 (fun e => ?_)]
    · exact h1
    · obtain ⟨_, o', ho', hc'⟩ := hr k e.symm
      rw [h1] at ho'
      cases ho'
      cases hc'
theorem Ck.below {n0 B : Nat} {A W w : World} (h : Ck n0 A W) (hb : Below B w A) (hn : B ≤ n0) : Below B w W :=
  ⟨h.os.trans hb.os, h.tape.trans hb.tape, h.output.trans hb.output, Nat.le_trans hb.size h.size, fun k hk => (h.low k (by omega)).trans (hb.block k hk)⟩
theorem Ck.rl {n0 : Nat} {A W : World} (h : Ck n0 A W) {b : Nat} {t : TypeId} {l : List Value} (hr : RL A b t l) : RL W b t l := by
  obtain ⟨cs, hcs, rest⟩ := hr
  exact ⟨cs, h.cells _ _ _ _ hcs, rest⟩
theorem Ck.own {n0 : Nat} {A W : World} (h : Ck n0 A W) {B : Nat} {e : TypeId} {k : Nat} {v : Value} {n : Nat} {xs : List Value} (ho : A.ownsRow B e k v n xs) : W.ownsRow B e k v n xs := by
  obtain ⟨e1, e2 | ⟨g', cap', cur, e, hbase, hc, rest⟩⟩ := ho
  · exact ⟨e1, .inl e2⟩
  · exact ⟨e1, .inr ⟨g', cap', cur, e, hbase, h.cells _ _ _ _ hc, rest⟩⟩
def tryN (d : Nat) (ss : List ByteArray) (l : List XL) (i : Nat) : Bool := !decide ((atL l i).x.k = 1) && ((stL d ss l i).k != 0)
def atN1 (l : List XL) (i : Nat) : Bool := decide ((atL l i).x.k = 1)
def nextM (d : Nat) (ss : List ByteArray) (l : List XL) (left : Nat) : St × Bool :=
  match (bitsL left).find? (tryN d ss l) with
  | some i => (stL d ss l i, true)
  | none => match (bitsL left).find? (atN1 l) with
    | some i => (stL d ss l i, (stL d ss l i).k != 0)
    | none => (⟨0, 0, 0, []⟩, false)
/-- what 'next' has written, at its end -/
structure NxA (w : World) (n0 : Nat) (t : St) (ok : Bool) (a : Option Addr) (c : Nat) (A : World) : Prop where
  sz : n0 ≤ A.heap.size
  bel : Below w.heap.size w A
  rs : RL A (w.heap.size + 1) 40 [.int .i8 t.k, .int .i64 t.i, .int .u32 t.m, .slice a t.g.length c]
  rb : RL A (w.heap.size + 2) 4 [.bool ok]
  own : A.ownsRow w.heap.size 9 1 (.slice a t.g.length c) t.g.length (t.g.flatMap strB)
def NxR (w : World) (n0 : Nat) (t : St) (ok : Bool) (W : World) : Prop := ∃ (a : Option Addr) (c : Nat) (A : World), NxA w n0 t ok a c A ∧ Ck n0 A W
theorem nxr_own {β : Type} {n0 B : Nat} {w : World} (t : β → St) (ok : β → Bool) (hB : n0 ≤ B) : OwnFrom B (fun (s : β) W => NxR w n0 (t s) (ok s) W) := by
  intro s W W' row ⟨a, c, A, h1, h2⟩ hg hr
  exact ⟨a, c, A, h1, ck_own (β := Unit) h1.sz hB () W W' row h2 hg hr⟩
theorem NxR.end {w : World} {n0 : Nat} {t : St} {ok : Bool} {W : World} (h : NxR w n0 t ok W) (hn : w.heap.size ≤ n0) : ∃ a c, Below w.heap.size w W ∧ RL W (w.heap.size + 1) 40 [.int .i8 t.k, .int .i64 t.i, .int .u32 t.m, .slice a t.g.length c] ∧ RL W (w.heap.size + 2) 4 [.bool ok] ∧ W.ownsRow w.heap.size 9 1 (.slice a t.g.length c) t.g.length (t.g.flatMap strB) := by
  obtain ⟨a, c, A, h1, h2⟩ := h
  exact ⟨a, c, h2.below h1.bel hn, h2.rl h1.rs, h2.rl h1.rb, h2.own h1.own⟩
theorem keepsFrom_belowP {B : Nat} {W W' : World} (h : Below W.heap.size W W') : KeepsFrom B W W' := ⟨h.size, fun k o _ hk _ => (h.block k (Array.getElem?_eq_some_iff.1 hk).1).trans hk⟩
theorem rl_resCC {fn : Func} {s1 s2 : Nat} {t1 t2 : TypeId} (hr : fn.results = #[.cell s1 t1, .cell s2 t2]) {W : World} {tmps : Array Value} {b1 b2 : Nat} {v u : Value} (h1 : tmps.getD s1 undef = .pointer (some ⟨b1, 0, none⟩)) (h2 : tmps.getD s2 undef = .pointer (some ⟨b2, 0, none⟩)) (l1 : (loadVar t1 ⟨b1, 0, none⟩).run Tryd.prog W = .ok v W) (l2 : (loadVar t2 ⟨b2, 0, none⟩).run Tryd.prog W = .ok u W) :
    (results fn tmps).run Tryd.prog W = .ok (.tuple #[v, u]) W := by
  have h1' : tmps[s1]?.getD undef = .pointer (some ⟨b1, 0, none⟩) := by simpa using h1
  have h2' : tmps[s2]?.getD undef = .pointer (some ⟨b2, 0, none⟩) := by simpa using h2
  unfold results
  rw [hr]
  simp [h1', h2', asAddr, l1, l2, Result.andThen]
theorem load_boP {u : World} {a : Addr} {v : Value} (h : u.cell? a = some v) : (loadVar 4 a).run Tryd.prog u = .ok v u := by rw [loadVar.eq_1]; go_simp
theorem find_none {p : Nat → Bool} {M : Nat} (h : ∀ j, j < (bitsL M).length → p (bitN M j) = false) : (bitsL M).find? p = none := by
  rw [List.find?_eq_none]
  intro x hx
  obtain ⟨j, hj, e⟩ := List.getElem_of_mem hx
  have := h j hj
  rw [bitN, List.getD, List.getElem?_eq_getElem hj, Option.getD_some, e] at this
  rw [this]
  decide
theorem find_at {p : Nat → Bool} {M k : Nat} (hk : k < (bitsL M).length) (h : ∀ j, j < k → p (bitN M j) = false) (hp : p (bitN M k) = true) : (bitsL M).find? p = some (bitN M k) := by
  rw [List.find?_eq_some_iff_getElem]
  refine ⟨hp, k, hk, ?_, fun j hj => ?_⟩
  · rw [bitN, List.getD, List.getElem?_eq_getElem hk, Option.getD_some]
  · have := h j hj
    rw [bitN, List.getD, List.getElem?_eq_getElem (by omega), Option.getD_some] at this
    rw [this]
    rfl
theorem bits_at_lt {l : List XL} {left k : Nat} (hl : left < 2 ^ l.length) (hk : k < (bitsL left).length) : bitN left k < l.length ∧ hasB left (bitN left k : Nat) = true := by
  have hm : bitN left k ∈ bitsL left := by
    rw [bitN, List.getD, List.getElem?_eq_getElem hk, Option.getD_some]
    exact List.getElem_mem hk
  have h1 := (bitsL_mem hm).1
  have h2 : hasB left (bitN left k : Nat) = true := by
    unfold hasB
    rw [Int.toNat_natCast, h1]
    simp
  exact ⟨by have := (hasB_lt hl h2).2; simpa using this, h2⟩
theorem own_st5 {w : World} {B : Nat} {v : Value} {n : Nat} {xs : List Value} (h : w.ownsRow B 9 1 v n xs) (b : Nat) (hb : b < B) (k i m : Int) (u : Value) : (st4 w b k i m u).ownsRow B 9 1 v n xs :=
  ownsRow_setCell_below (ownsRow_setCell_below (ownsRow_setCell_below (ownsRow_setCell_below h (a := ⟨b, 0, none⟩) hb _) (a := ⟨b, 1, none⟩) hb _) (a := ⟨b, 2, none⟩) hb _) (a := ⟨b, 3, none⟩) hb _
theorem st4_block (w : World) (g : Nat) (k i m : Int) (v : Value) {b : Nat} (hne : b ≠ g) : (st4 w g k i m v).heap[b]? = w.heap[b]? := by
  unfold st4
  rw [Below.heap_setCell _ _ _ _ hne, Below.heap_setCell _ _ _ _ hne, Below.heap_setCell _ _ _ _ hne, Below.heap_setCell _ _ _ _ hne]
/-- the answer is written -/
theorem nxa_set {w V W1 : World} {n0 : Nat} {t : St} {ok : Bool} {a : Option Addr} {c : Nat} {z0 z1 z2 z3 zb : Value} (hw : Below w.heap.size w V) (hz : w.heap.size + 3 ≤ W1.heap.size) (hn : n0 ≤ V.heap.size) (hr : RL V (w.heap.size + 1) 40 [z0, z1, z2, z3]) (hb : RL V (w.heap.size + 2) 4 [zb]) (ho : V.ownsRow W1.heap.size 9 1 (.slice a t.g.length c) t.g.length (t.g.flatMap strB)) :
    NxA w n0 t ok a c ((st4 V (w.heap.size + 1) t.k t.i t.m (.slice a t.g.length c)).setCell ⟨w.heap.size + 2, 0, none⟩ (.bool ok)) := by
  have hb1 : w.heap.size ≤ w.heap.size + 1 := by omega
  refine ⟨?_, (st4_below hw hb1 _ _ _ _).setCell (p := ⟨w.heap.size + 2, 0, none⟩) (by simp) _, ?_, ?_, ?_⟩
  · have h1 : (st4 V (w.heap.size + 1) t.k t.i t.m (.slice a t.g.length c)).heap.size = V.heap.size := by simp [st4, World.setCell]
    simpa [World.setCell, h1] using hn
  · have h1 := st4_rl hr t.k t.i t.m (.slice a t.g.length c)
    have h2 : w.heap.size + 1 ≠ w.heap.size + 2 := by omega
    exact World.rowIs.of_block h1 (Below.heap_setCell _ ⟨w.heap.size + 2, 0, none⟩ _ _ h2)
  · have h2 : w.heap.size + 2 ≠ w.heap.size + 1 := by omega
    have h1 : RL (st4 V (w.heap.size + 1) t.k t.i t.m (.slice a t.g.length c)) (w.heap.size + 2) 4 [zb] := World.rowIs.of_block hb (st4_block V (w.heap.size + 1) t.k t.i t.m (.slice a t.g.length c) h2)
    exact h1.set 0 _
  · have h5 := own_st5 ho (w.heap.size + 1) (by omega) t.k t.i t.m (.slice a t.g.length c)
    have h6 : w.heap.size + 2 < W1.heap.size := by omega
    exact own_base (ownsRow_setCell_below h5 (a := ⟨w.heap.size + 2, 0, none⟩) h6 _) (by omega)
theorem put_end {w X : World} {D : Nat} {t : St} {ok : Bool} {a : Option Addr} {c : Nat} (hK : X.heap[D]? = some (.deferred (some []))) (hD : w.heap.size + 3 ≤ D) (hb : Below w.heap.size w X) (hr : RL X (w.heap.size + 1) 40 [.int .i8 t.k, .int .i64 t.i, .int .u32 t.m, .slice a t.g.length c]) (hq : RL X (w.heap.size + 2) 4 [.bool ok]) (ho : X.ownsRow w.heap.size 9 1 (.slice a t.g.length c) t.g.length (t.g.flatMap strB)) :
    Below w.heap.size w (X.putObj D (.deferred none)) ∧ RL (X.putObj D (.deferred none)) (w.heap.size + 1) 40 [.int .i8 t.k, .int .i64 t.i, .int .u32 t.m, .slice a t.g.length c] ∧ RL (X.putObj D (.deferred none)) (w.heap.size + 2) 4 [.bool ok] ∧ (X.putObj D (.deferred none)).ownsRow w.heap.size 9 1 (.slice a t.g.length c) t.g.length (t.g.flatMap strB) := by
  have e : ∀ k, k ≠ D → (X.putObj D (.deferred none)).heap[k]? = X.heap[k]? := fun k hk => World.putObj_heap_other hk
  refine ⟨⟨hb.os, hb.tape, hb.output, Nat.le_trans hb.size (by simp [World.putObj]), fun k hk => (e k (by omega)).trans (hb.block k hk)⟩, World.rowIs.of_block hr (e _ (by omega)), World.rowIs.of_block hq (e _ (by omega)), own_of_block ho (fun g hg => e g (fun h => ?_))⟩
  obtain ⟨e1, ⟨e2, _⟩ | ⟨g', cap', cur, e3, hbase, hc, rest⟩⟩ := ho
  · rw [e2] at hg
    cases hg
  · rw [e3] at hg
    cases hg
    have h' : g' = D := h
    rw [h', hK] at hc
    cases hc
theorem ownFrom_at {β : Type} {B D : Nat} {o : Obj} (hB : D < B) : OwnFrom B (fun (_ : β) W => W.heap[D]? = some o) := by
  intro s W W' row hs hg hr
  rw [hg.block D (Array.getElem?_eq_some_iff.1 hs).1 (fun e => by have := (hr D e.symm).1; omega)]
  exact hs
theorem keepsFrom_st {V W1 : World} {B b : Nat} (h : KeepsFrom B W1 V) (hb : b + 2 ≤ B) (k i m : Int) (v x : Value) : KeepsFrom B W1 ((st4 V b k i m v).setCell ⟨b + 1, 0, none⟩ x) := by
  have h1 : (st4 V b k i m v).heap.size = V.heap.size := by simp [st4, World.setCell]
  refine ⟨?_, fun j o hj hk ho => ?_⟩
  · simpa [World.setCell, h1] using h.size
  · rw [Below.heap_setCell _ _ _ _ (by simp; omega), st4_block _ _ _ _ _ _ (by omega)]
    exact h.same j o hj hk ho
theorem load_ptT {u : World} {a : Addr} {v : Value} (h : u.cell? a = some v) : (loadVar 65 a).run Tryd.prog u = .ok v u := by rw [loadVar.eq_1]; go_simp
attribute [-go_sem] loadVar
set_option maxRecDepth 100000 in
set_option maxHeartbeats 6400000 in
theorem next_any {w : World} {tb kb d : Nat} {v : Value} {ss : List ByteArray} {left : Nat} {l : List XL} (hT : TuIs w tb kb v ss left) (hL : Lb w v d l) (hB : BdR d l) (hl : left < 2 ^ l.length) (hD : DT w) :
    Calls Tryd.prog 32 #[.pointer (some ⟨tb, 0, none⟩)] w fun e w' => Below w.heap.size w w' ∧ ∃ a c, e = .returned (.tuple #[(nextM d ss l left).1.val a c, .bool (nextM d ss l left).2]) ∧ w'.ownsRow w.heap.size 9 1 (.slice a (nextM d ss l left).1.g.length c) (nextM d ss l left).1.g.length ((nextM d ss l left).1.g.flatMap strB) := by
  have h32 : left < 4294967296 := Nat.lt_of_lt_of_le hl (Nat.le_trans (Nat.pow_le_pow_right (by omega) hB.bn) (by decide))
  have hA3 : Below w.heap.size w (((w.alloc (.cells #[.pointer (some ⟨tb, 0, none⟩)] 65)).alloc (.cells #[.int .i8 0, .int .i64 0, .int .u32 0, .slice none 0 0] 40)).alloc (.cells #[.bool false] 4)) := (((Below.refl _ _).alloc (Nat.le_refl _) _).alloc (by simp) _).alloc (by simp; omega) _
  have l2 := load_litsK ((hA3.cell (p := ⟨tb, 2, none⟩) hT.rl.lt).trans (RL.at hT.rl (j := 2) rfl))
  have HT := Lib.hid hT
  have HL := Lib.hid hL
  have HB := Lib.hid hB
  have HLT := Lib.hid hl
  have HDT := Lib.hid hD
  have HA3 := Lib.hid hA3
  clear hT hL hB hl hD hA3
  refine (callsIn_wide (n := 8)).1 ?_
  refine callsIn_of_wp_marks Tryd.func32 rfl trivial ?_ rfl
  simp only [Tryd.ntmps32, List.size_toArray, List.length_cons, List.length_nil, Nat.reduceAdd, Nat.reduceSub, Array.replicate_succ, Array.replicate_zero, List.push_toArray, List.append_toArray, List.nil_append, List.cons_append]
  have l1 : (loadVar 65 ⟨w.heap.size, 0, none⟩).run Tryd.prog (((w.alloc (.cells #[.pointer (some ⟨tb, 0, none⟩)] 65)).alloc (.cells #[.int .i8 0, .int .i64 0, .int .u32 0, .slice none 0 0] 40)).alloc (.cells #[.bool false] 4)) = .ok (.pointer (some ⟨tb, 0, none⟩)) _ := load_ptT (by go_simp)
  gi_wp2_with fail
  refine ⟨trivial, (callsIn_wide.2 (rising_any (left : Int) _)).mono ?_⟩
  obtain ⟨W3, hW3⟩ : ∃ W3, W3 = (((w.alloc (.cells #[.pointer (some ⟨tb, 0, none⟩)] 65)).alloc (.cells #[.int .i8 0, .int .i64 0, .int .u32 0, .slice none 0 0] 40)).alloc (.cells #[.bool false] 4)) := ⟨_, rfl⟩
  have HS3 : Hid (W3.heap.size = w.heap.size + 3) := by show _ = _; rw [hW3]; simp
  have HP3 : Hid (W3.cell? ⟨w.heap.size, 0, none⟩ = some (.pointer (some ⟨tb, 0, none⟩))) := by show _ = _; rw [hW3]; go_simp
  have HR3 : Hid (RL W3 (w.heap.size + 1) 40 [.int .i8 0, .int .i64 0, .int .u32 0, .slice none 0 0]) := by
    show RL _ _ _ _
    rw [hW3]
    have h1 := rl_new (w.alloc (.cells #[.pointer (some ⟨tb, 0, none⟩)] 65)) #[.int .i8 0, .int .i64 0, .int .u32 0, .slice none 0 0] 40
    rw [World.size_alloc] at h1
    exact RL.below h1 (belowA _)
  have HQ3 : Hid (RL W3 (w.heap.size + 2) 4 [.bool false]) := by
    show RL _ _ _ _
    rw [hW3]
    have h1 := rl_new ((w.alloc (.cells #[.pointer (some ⟨tb, 0, none⟩)] 65)).alloc (.cells #[.int .i8 0, .int .i64 0, .int .u32 0, .slice none 0 0] 40)) #[.bool false] 4
    rw [World.size_alloc, World.size_alloc] at h1
    exact h1
  rw [← hW3] at HA3 ⊢
  clear hW3 l1 l2
  rintro e W4 ⟨b0, rfl, hc0, hb0, hb1, b4⟩
  have HSQ := Lib.hid (rising_tells 7 h32 ((HDT.out.below HA3.out).below b4) hc0 hb0)
  have HA4 := Lib.hid (HA3.out.trans (b4.mono HA3.out.size))
  have HP4 := Lib.hid ((b4.cell (p := ⟨w.heap.size, 0, none⟩) (by have := HS3.out; show w.heap.size < _; omega)).trans HP3.out)
  have HR4 := Lib.hid (RL.below HR3.out b4)
  have HQ4 := Lib.hid (RL.below HQ3.out b4)
  have HS4 : Hid (w.heap.size + 3 ≤ W4.heap.size) := by
    show _ ≤ _
    have := HS3.out
    have := b4.size
    omega
  clear b4 hc0 hb0 hb1 HR3 HQ3 HP3 HS3 HA3
  gi_wp2_with fail
  have hmo : Tryd.prog.follows .mixedOrders = true := by kernel_rfl
  have hdt : 1 < W4.heap.size := Nat.lt_of_lt_of_le HDT.out.lt (by have := HS4.out; omega)
  refine wpIn_rangeTells rfl (by omega) (gf := 72) (lb := #[.pointer (some ⟨b0, 0, none⟩)]) rfl trivial (enters_of Tryd.func72 (by kernel_rfl) rfl) HSQ.out (fun h k => k.trans h)
    (fun W l o o' hl _ _ _ => World.putObj_heap_other (by omega)) (Below.refl _ _) (fun _ => rfl)
    (fun k W => Below W4.heap.size W4 W ∧ ∀ j, j < k → tryN d ss l (bitN left j) = false) (fun c k W => (c = .ret ∧ k ≤ (bitsL left).length ∧ ∃ j, j + 1 = k ∧ (bitsL left).find? (tryN d ss l) = some (bitN left j)) ∧ NxR w W4.heap.size (stL d ss l (bitN left (k - 1))) true W)
    (OwnFrom.and (ownFrom_below (Nat.le_refl _) (Nat.le_refl _)) (ownFrom_pure _ _))
    (fun c => OwnFrom.and (ownFrom_pure _ _) (nxr_own (fun k => stL d ss l (bitN left (k - 1))) (fun _ => true) (Nat.le_refl _))) ⟨Below.refl _ _, fun j hj => absurd hj (Nat.not_lt_zero _)⟩
    (fun k a' _ => a' = { tmps := #[.pointer (some ⟨tb, 0, none⟩), .pointer (some ⟨w.heap.size, 0, none⟩), .pointer (some ⟨w.heap.size + 1, 0, none⟩), .pointer (some ⟨w.heap.size + 1 + 1, 0, none⟩), .int .i64 ((bitN left k : Nat) : Int), undef, undef, undef, .pointer (some ⟨tb, 0, none⟩), .pointer (some ⟨tb, 0, none⟩), .pointer (some ⟨tb, 2, none⟩), .int .u32 (left : Int), .func (.func 72) #[] #[.pointer (some ⟨b0, 0, none⟩)], .int .i64 ((bitN left k : Nat) : Int), undef, undef, undef, undef, undef, undef, undef, undef, undef, undef, undef, undef, undef, undef, undef, undef, undef, undef, undef, undef, undef, undef, undef, undef, undef, undef], defers := [] })
    (fun _ _ _ _ _ _ hs _ _ => hs) ?assign ?body ?done ?stop
  case assign =>
    intro l' k W K hk hi hK
    have hK' := hK _ W (KeepsFrom.refl _ _) rfl hi rfl
    clear hK hi HSQ HA4 HP4 HR4 HQ4 HS4
    unfold bitsAt
    gi_wp2
    exact hK'
  case body =>
    rintro l' k a' W hk ⟨hbw, hno⟩ rfl
    obtain ⟨hil, hih⟩ := bits_at_lt HLT.out hk
    have HBW := Lib.hid hbw
    have HNO := Lib.hid hno
    have HIL := Lib.hid hil
    have HWW := Lib.hid (HA4.out.trans (hbw.mono HA4.out.size))
    have l1 := load_ptT ((hbw.cell (p := ⟨w.heap.size, 0, none⟩) (by have := HS4.out; show w.heap.size < _; omega)).trans HP4.out)
    have HTW : Hid (TuIs W tb kb v ss left) := ⟨RL.below HT.out.rl HWW.out, HT.out.set.of_block (HWW.out.block kb HT.out.set.lt), HT.out.ne⟩
    have HTA := Lib.hid (turnAtom_any HTW.out (HL.out.below HWW.out) HB.out.bn HLT.out ((bitN left k : Nat) : Int))
    have HKL := Lib.hid hk
    have HAT : Hid (isAtM l left ((bitN left k : Nat) : Int) = atN1 l (bitN left k)) := by
      show _ = _
      unfold isAtM atN1
      rw [hih, Int.toNat_natCast, Bool.true_and]
    have HST := Lib.hid (step_any (d := d) (k := bitN left k) HTW.out (HL.out.below HWW.out) hil HB.out.bn (HB.out.bc _ hil) (HB.out.bl _ hil) (HB.out.br _ hil))
    have HFA : Hid (tryN d ss l (bitN left k) = true → (bitsL left).find? (tryN d ss l) = some (bitN left k)) := fun h => find_at hk HNO.out h
    have HTR : Hid (tryN d ss l (bitN left k) = (!atN1 l (bitN left k) && ((stL d ss l (bitN left k)).k != 0))) := rfl
    have HGO : Hid (tryN d ss l (bitN left k) = false → ∀ j, j < k + 1 → tryN d ss l (bitN left j) = false) := fun h j hj => by
      by_cases hjk : j = k
      · rw [hjk]
        exact h
      · exact HNO.out j (by omega)
    clear hbw hno hih hil hk HSQ
    rw [HAT.out] at HTA
    gi_wp2_with fail
    refine ⟨trivial, (CallsIn.inRound l' (callsIn_wide.2 HTA.out)).mono ?_⟩
    rintro e w1 ⟨rfl, rfl⟩
    cases ha : atN1 l (bitN left k)
    · rw [ha] at HTR
      rw [show (!false : Bool) = true from rfl, Bool.true_and] at HTR
      obtain ⟨t, ht⟩ : ∃ t, t = stL d ss l (bitN left k) := ⟨_, rfl⟩
      rw [← ht] at HST HTR
      have HTQ := Lib.hid ht
      clear ht HTA ha
      obtain ⟨tk, ti, tm, tg⟩ := t
      unfold St.val at HST
      simp only at HST HTR
      gi_wp2_with fail
      refine ⟨trivial, (CallsIn.inRound l' (callsIn_wide.2 HST.out)).mono ?_⟩
      rintro e w2 ⟨b2, a2, c2, rfl, hown⟩
      have HB2 := Lib.hid b2
      have HOW := Lib.hid hown
      have HBX : Hid (Below w1.heap.size w1 (w2.alloc (.cells #[.int .i8 tk, .int .i64 ti, .int .u32 tm, .slice a2 tg.length c2] 40))) := b2.trans ((belowA _).mono b2.size)
      have HZR := Lib.hid (RL.below (RL.below HR4.out HBW.out) HBX.out)
      have HZB := Lib.hid (RL.below (RL.below HQ4.out HBW.out) HBX.out)
      have l5 := load_StP (rl_new w2 #[.int .i8 tk, .int .i64 ti, .int .u32 tm, .slice a2 tg.length c2] 40)
      clear HST b2 hown l1
      cases hz : (tk != 0)
      · have HFF := Lib.hid (HGO.out (by rw [HTR.out, hz]))
        clear HTR HGO HFA HZR HZB l5 hz
        gi_wp2
        exact ⟨keepsFrom_belowP HBX.out, HBX.out.block _ (Nat.lt_of_lt_of_le hdt HBW.out.size), HBW.out.trans (HBX.out.mono HBW.out.size), HFF.out⟩
      · have HFF := Lib.hid (HFA.out (by rw [HTR.out, hz]))
        have z0 := RL.at HZR.out (j := 0) rfl
        have z1 := RL.at HZR.out (j := 1) rfl
        have z2 := RL.at HZR.out (j := 2) rfl
        have z3 := RL.at HZR.out (j := 3) rfl
        have y0 := World.rowIs.frozen HZR.out 0
        have y1 := World.rowIs.frozen HZR.out 1
        have y2 := World.rowIs.frozen HZR.out 2
        have y3 := World.rowIs.frozen HZR.out 3
        have q0 := RL.at HZB.out (j := 0) rfl
        have g0 := World.rowIs.frozen HZB.out 0
        have HWV : Hid (Below w.heap.size w (w2.alloc (.cells #[.int .i8 tk, .int .i64 ti, .int .u32 tm, .slice a2 tg.length c2] 40))) := HWW.out.trans (HBX.out.mono HWW.out.size)
        clear HTR HGO HFA hz
        gi_wp2
        refine ⟨keepsFrom_st (b := w.heap.size + 1) (keepsFrom_belowP HBX.out) HS4.out tk ti tm (.slice a2 tg.length c2) (.bool true), ⟨rfl, HKL.out, k, rfl, HFF.out⟩, a2, c2, _, ?_, Ck.refl _ _⟩
        rw [show k + 1 - 1 = k from rfl, ← HTQ.out]
        exact nxa_set (t := ⟨tk, ti, tm, tg⟩) HWV.out (W1 := w1) (Nat.le_trans HS4.out HBW.out.size) (Nat.le_trans HBW.out.size HBX.out.size) HZR.out HZB.out (own_below HOW.out (belowA _))
    · have HFF := Lib.hid (HGO.out (by rw [HTR.out, ha]; rfl))
      clear ha HTR HGO HFA HST HTA l1
      gi_wp2
      exact ⟨KeepsFrom.refl _ _, rfl, HBW.out, HFF.out⟩
  case done =>
    rintro D W hD ⟨hbw, hno⟩ hKD
    have hFN := find_none hno
    have HFN := Lib.hid hFN
    have HWW := Lib.hid (HA4.out.trans (hbw.mono HA4.out.size))
    have HRW := Lib.hid (RL.below HR4.out hbw)
    have HQW := Lib.hid (RL.below HQ4.out hbw)
    have HSW : Hid (W4.heap.size ≤ W.heap.size) := hbw.size
    have HKD := Lib.hid hKD
    have l1 := load_ptT ((hbw.cell (p := ⟨w.heap.size, 0, none⟩) (by have := HS4.out; show w.heap.size < _; omega)).trans HP4.out)
    have HPW := Lib.hid ((hbw.cell (p := ⟨w.heap.size, 0, none⟩) (by have := HS4.out; show w.heap.size < _; omega)).trans HP4.out)
    have l2 := load_litsK (RL.at (RL.below HT.out.rl HWW.out) (j := 2) rfl)
    clear hbw hno hFN hKD HSQ
    gi_wp2_with fail
    refine ⟨trivial, (callsIn_wide.2 (rising_any (left : Int) _)).mono ?_⟩
    clear l1 l2
    rintro e W6 ⟨b1, rfl, hc1, hb1, _, b6⟩
    have HSQ2 := Lib.hid (rising_tells 7 h32 ((HDT.out.below HWW.out).below b6) hc1 hb1)
    have HA6 := Lib.hid (HWW.out.trans (b6.mono HWW.out.size))
    have HDW : D < W.heap.size := (Array.getElem?_eq_some_iff.1 HKD.out).1
    have HP6 := Lib.hid ((b6.cell (p := ⟨w.heap.size, 0, none⟩) (by have := HS4.out; have := HSW.out; show w.heap.size < _; omega)).trans HPW.out)
    have HR6 := Lib.hid (RL.below HRW.out b6)
    have HQ6 := Lib.hid (RL.below HQW.out b6)
    have HK6 := Lib.hid ((b6.block D HDW).trans HKD.out)
    have HD6 : Hid (D < W6.heap.size) := Nat.lt_of_lt_of_le HDW b6.size
    have HDG : Hid (w.heap.size + 3 ≤ D) := Nat.le_trans HS4.out hD
    have HS6 : Hid (w.heap.size + 3 ≤ W6.heap.size) := by
      show _ ≤ _
      have := HS4.out
      have := HSW.out
      have := b6.size
      omega
    clear b6 hc1 hb1 HRW HQW HPW HKD HDW HSW HWW HR4 HQ4 HP4
    gi_wp2_with fail
    have hdt6 : 1 < W6.heap.size := Nat.lt_of_lt_of_le HDT.out.lt (by have := HS6.out; omega)
    refine wpIn_rangeTells rfl (by omega) (gf := 72) (lb := #[.pointer (some ⟨b1, 0, none⟩)]) rfl trivial (enters_of Tryd.func72 (by kernel_rfl) rfl) HSQ2.out (fun h k => k.trans h)
      (fun W l o o' hl _ _ _ => World.putObj_heap_other (by omega)) (Below.refl _ _) (fun _ => rfl)
      (fun k X => Below W6.heap.size W6 X ∧ ∀ j, j < k → atN1 l (bitN left j) = false) (fun c k X => (c = .ret ∧ ∃ j, j + 1 = k ∧ (bitsL left).find? (atN1 l) = some (bitN left j)) ∧ NxR w W6.heap.size (stL d ss l (bitN left (k - 1))) ((stL d ss l (bitN left (k - 1))).k != 0) X ∧ X.heap[D]? = some (.deferred (some [])))
      (OwnFrom.and (ownFrom_below (Nat.le_refl _) (Nat.le_refl _)) (ownFrom_pure _ _))
      (fun c => OwnFrom.and (ownFrom_pure _ _) (OwnFrom.and (nxr_own (fun k => stL d ss l (bitN left (k - 1))) (fun k => (stL d ss l (bitN left (k - 1))).k != 0) (Nat.le_refl _)) (ownFrom_at HD6.out))) ⟨Below.refl _ _, fun j hj => absurd hj (Nat.not_lt_zero _)⟩
      (fun k a' _ => a' = { tmps := #[.pointer (some ⟨tb, 0, none⟩), .pointer (some ⟨w.heap.size, 0, none⟩), .pointer (some ⟨w.heap.size + 1, 0, none⟩), .pointer (some ⟨w.heap.size + 1 + 1, 0, none⟩), undef, undef, undef, .int .i64 ((bitN left k : Nat) : Int), .pointer (some ⟨tb, 0, none⟩), .pointer (some ⟨tb, 0, none⟩), .pointer (some ⟨tb, 2, none⟩), .int .u32 (left : Int), .func (.func 72) #[] #[.pointer (some ⟨b0, 0, none⟩)], undef, undef, undef, undef, undef, undef, undef, undef, undef, undef, undef, undef, .pointer (some ⟨tb, 0, none⟩), .pointer (some ⟨tb, 0, none⟩), .pointer (some ⟨tb, 2, none⟩), .int .u32 (left : Int), .func (.func 72) #[] #[.pointer (some ⟨b1, 0, none⟩)], .int .i64 ((bitN left k : Nat) : Int), undef, undef, undef, undef, undef, undef, undef, undef, undef], defers := [] })
      (fun _ _ _ _ _ _ hs _ _ => hs) ?assign2 ?body2 ?done2 ?stop2
    case assign2 =>
      intro l' k X K hk hi hK
      have hK' := hK _ X (KeepsFrom.refl _ _) rfl hi rfl
      clear hK hi HSQ2 HA6 HP6 HR6 HQ6 HS6 HK6
      unfold bitsAt
      gi_wp2
      exact hK'
    case body2 =>
      rintro l' k a' X hk ⟨hbw, hno⟩ rfl
      obtain ⟨hil, hih⟩ := bits_at_lt HLT.out hk
      have HBW := Lib.hid hbw
      have HNO := Lib.hid hno
      have HWW := Lib.hid (HA6.out.trans (hbw.mono HA6.out.size))
      have l1 := load_ptT ((hbw.cell (p := ⟨w.heap.size, 0, none⟩) (by have := HS6.out; show w.heap.size < _; omega)).trans HP6.out)
      have HTW : Hid (TuIs X tb kb v ss left) := ⟨RL.below HT.out.rl HWW.out, HT.out.set.of_block (HWW.out.block kb HT.out.set.lt), HT.out.ne⟩
      have HTA := Lib.hid (turnAtom_any HTW.out (HL.out.below HWW.out) HB.out.bn HLT.out ((bitN left k : Nat) : Int))
      have HAT : Hid (isAtM l left ((bitN left k : Nat) : Int) = atN1 l (bitN left k)) := by
        show _ = _
        unfold isAtM atN1
        rw [hih, Int.toNat_natCast, Bool.true_and]
      have HST := Lib.hid (step_any (d := d) (k := bitN left k) HTW.out (HL.out.below HWW.out) hil HB.out.bn (HB.out.bc _ hil) (HB.out.bl _ hil) (HB.out.br _ hil))
      have HFA : Hid (atN1 l (bitN left k) = true → (bitsL left).find? (atN1 l) = some (bitN left k)) := fun h => find_at hk HNO.out h
      have HGO : Hid (atN1 l (bitN left k) = false → ∀ j, j < k + 1 → atN1 l (bitN left j) = false) := fun h j hj => by
        by_cases hjk : j = k
        · rw [hjk]
          exact h
        · exact HNO.out j (by omega)
      clear hbw hno hih hil hk HSQ2
      rw [HAT.out] at HTA
      gi_wp2_with fail
      refine ⟨trivial, (CallsIn.inRound l' (callsIn_wide.2 HTA.out)).mono ?_⟩
      rintro e w1 ⟨rfl, rfl⟩
      cases ha : atN1 l (bitN left k)
      · have HFF := Lib.hid (HGO.out ha)
        clear ha HGO HFA HST HTA l1
        gi_wp2
        exact ⟨KeepsFrom.refl _ _, rfl, HBW.out, HFF.out⟩
      · have HFF := Lib.hid (HFA.out ha)
        obtain ⟨t, ht⟩ : ∃ t, t = stL d ss l (bitN left k) := ⟨_, rfl⟩
        rw [← ht] at HST
        have HTQ := Lib.hid ht
        clear ht HTA ha HGO HFA
        obtain ⟨tk, ti, tm, tg⟩ := t
        unfold St.val at HST
        simp only at HST
        gi_wp2_with fail
        refine ⟨trivial, (CallsIn.inRound l' (callsIn_wide.2 HST.out)).mono ?_⟩
        rintro e w2 ⟨b2, a2, c2, rfl, hown⟩
        have HB2 := Lib.hid b2
        have HOW := Lib.hid hown
        have HZR := Lib.hid (RL.below (RL.below HR6.out HBW.out) b2)
        have HZB := Lib.hid (RL.below (RL.below HQ6.out HBW.out) b2)
        have z0 := RL.at HZR.out (j := 0) rfl
        have z1 := RL.at HZR.out (j := 1) rfl
        have z2 := RL.at HZR.out (j := 2) rfl
        have z3 := RL.at HZR.out (j := 3) rfl
        have y0 := World.rowIs.frozen HZR.out 0
        have y1 := World.rowIs.frozen HZR.out 1
        have y2 := World.rowIs.frozen HZR.out 2
        have y3 := World.rowIs.frozen HZR.out 3
        have q0 := RL.at HZB.out (j := 0) rfl
        have g0 := World.rowIs.frozen HZB.out 0
        have HWV : Hid (Below w.heap.size w w2) := HWW.out.trans (b2.mono HWW.out.size)
        clear HST l1 b2 hown
        gi_wp2
        refine ⟨keepsFrom_st (b := w.heap.size + 1) (keepsFrom_belowP HB2.out) HS6.out tk ti tm (.slice a2 tg.length c2) (.bool (tk != 0)), ⟨rfl, k, rfl, HFF.out⟩, ⟨a2, c2, _, ?_, Ck.refl _ _⟩, ?_⟩
        · rw [show k + 1 - 1 = k from rfl, ← HTQ.out]
          exact nxa_set (t := ⟨tk, ti, tm, tg⟩) HWV.out (W1 := w1) (Nat.le_trans HS6.out HBW.out.size) (Nat.le_trans HBW.out.size HB2.out.size) HZR.out HZB.out HOW.out
        · have h1 : D ≠ w.heap.size + 2 := by have := HDG.out; omega
          have h2 : D ≠ w.heap.size + 1 := by have := HDG.out; omega
          have h3 := ((HB2.out.block D (Nat.lt_of_lt_of_le HD6.out HBW.out.size)).trans (HBW.out.block D HD6.out)).trans HK6.out
          have h4 : ((st4 w2 (w.heap.size + 1) tk ti tm (.slice a2 tg.length c2)).setCell ⟨w.heap.size + 2, 0, none⟩ (.bool (tk != 0))).heap[D]? = some (.deferred (some [])) := by
            rw [Below.heap_setCell _ ⟨w.heap.size + 2, 0, none⟩ _ _ h1, st4_block _ _ _ _ _ _ h2]
            exact h3
          exact h4
    case done2 =>
      rintro D2 X hD2 ⟨hbw, hno⟩ hKD2
      have hFN2 := find_none hno
      have HNM : Hid (nextM d ss l left = (⟨0, 0, 0, []⟩, false)) := by
        show _ = _
        unfold nextM
        rw [HFN.out, hFN2]
      have HZR := Lib.hid (RL.below HR6.out hbw)
      have HZB := Lib.hid (RL.below HQ6.out hbw)
      have HK1 := Lib.hid ((hbw.block D HD6.out).trans HK6.out)
      have HK2 := Lib.hid hKD2
      have HBX := Lib.hid hbw
      have z0 := RL.at HZR.out (j := 0) rfl
      have z1 := RL.at HZR.out (j := 1) rfl
      have z2 := RL.at HZR.out (j := 2) rfl
      have z3 := RL.at HZR.out (j := 3) rfl
      have y0 := World.rowIs.frozen HZR.out 0
      have y1 := World.rowIs.frozen HZR.out 1
      have y2 := World.rowIs.frozen HZR.out 2
      have y3 := World.rowIs.frozen HZR.out 3
      have q0 := RL.at HZB.out (j := 0) rfl
      have g0 := World.rowIs.frozen HZB.out 0
      clear hbw hno hFN2 hKD2 HSQ2
      have hne : D ≠ D2 := by have := HD6.out; omega
      have hX2 : ∀ b, W6.heap.size ≤ b ∨ b = D → ((st4 X (w.heap.size + 1) 0 0 0 (.slice none 0 0)).setCell ⟨w.heap.size + 2, 0, none⟩ (.bool false)).heap[b]? = X.heap[b]? := fun b hb => by
        have h1 : b ≠ w.heap.size + 2 := by have := HS6.out; have := HDG.out; omega
        have h2 : b ≠ w.heap.size + 1 := by have := HS6.out; have := HDG.out; omega
        rw [Below.heap_setCell _ ⟨w.heap.size + 2, 0, none⟩ _ _ h1, st4_block _ _ _ _ _ _ h2]
      have hA := nxa_set (t := ⟨0, 0, 0, []⟩) (a := none) (c := 0) (ok := false) (V := X) (n0 := W6.heap.size) (HA6.out.trans (HBX.out.mono HA6.out.size)) (W1 := W6) HS6.out HBX.out.size HZR.out HZB.out (World.ownsRow_nil _ _ _ _)
      have hE := hX2 D2 (.inl hD2)
      have hE1 := hX2 D (.inr rfl)
      have h1 := (nxr_own (β := Unit) (n0 := W6.heap.size) (B := W6.heap.size) (w := w) (fun _ => ⟨0, 0, 0, []⟩) (fun _ => false) (Nat.le_refl _)).putObj (s := ()) (.deferred none) ⟨none, 0, _, hA, Ck.refl _ _⟩ hD2 (hE.trans HK2.out) rfl
      obtain ⟨a3, c3, hbel, hrs, hrb, hown⟩ := h1.end (by have := HS6.out; omega)
      have hKK : (World.putObj ((st4 X (w.heap.size + 1) 0 0 0 (.slice none 0 0)).setCell ⟨w.heap.size + 2, 0, none⟩ (.bool false)) D2 (.deferred none)).heap[D]? = some (.deferred (some [])) := (World.putObj_heap_other hne).trans (hE1.trans HK1.out)
      have hFE := put_end hKK HDG.out hbel hrs hrb hown
      have HKD2 := Lib.hid (hE.trans HK2.out)
      have HKK := Lib.hid hKK
      have HFE := Lib.hid hFE
      clear hFE hKK hbel hrs hrb hown h1 hA hE hE1 hX2
      unfold st4 at HKD2 HKK HFE
      gi_wp2
      refine ⟨by simp, .inl ⟨_, _, rfl, run_takeDeferred HKD2.out, by simp, .inl ⟨_, _, rfl, run_takeDeferred HKK.out, ?_⟩⟩⟩
      refine ⟨_, rl_resCC Tryd.results32 rfl rfl (load_StP HFE.out.2.1) (load_boP (RL.at HFE.out.2.2.1 (j := 0) rfl)), HFE.out.1, a3, c3, ?_, ?_⟩
      · rw [HNM.out]
        rfl
      · rw [HNM.out]
        exact HFE.out.2.2.2
    case stop2 =>
      rintro D2 c k X hD2 hkN ⟨⟨rfl, j, hj, hfd⟩, hnx, hKX⟩ hKD2
      have hkj : k - 1 = j := by omega
      rw [hkj] at hnx
      have HNM : Hid (nextM d ss l left = (stL d ss l (bitN left j), (stL d ss l (bitN left j)).k != 0)) := by
        show _ = _
        unfold nextM
        rw [HFN.out, hfd]
      have h1 := (nxr_own (β := Unit) (n0 := W6.heap.size) (B := W6.heap.size) (w := w) (fun _ => stL d ss l (bitN left j)) (fun _ => (stL d ss l (bitN left j)).k != 0) (Nat.le_refl _)).putObj (s := ()) (.deferred none) hnx hD2 hKD2 rfl
      obtain ⟨a3, c3, hbel, hrs, hrb, hown⟩ := h1.end (by have := HS6.out; omega)
      have hne : D ≠ D2 := by have := HD6.out; omega
      have hKK : (World.putObj X D2 (.deferred none)).heap[D]? = some (.deferred (some [])) := (World.putObj_heap_other hne).trans hKX
      have hFE := put_end hKK HDG.out hbel hrs hrb hown
      have HKD2 := Lib.hid hKD2
      have HKK := Lib.hid hKK
      have HFE := Lib.hid hFE
      clear hFE hKK hbel hrs hrb hown h1 hnx hKX hKD2 hfd HSQ2
      gi_wp2
      refine ⟨by simp, .inl ⟨_, _, rfl, run_takeDeferred HKD2.out, by simp, .inl ⟨_, _, rfl, run_takeDeferred HKK.out, ?_⟩⟩⟩
      refine ⟨_, rl_resCC Tryd.results32 rfl rfl (load_StP HFE.out.2.1) (load_boP (RL.at HFE.out.2.2.1 (j := 0) rfl)), HFE.out.1, a3, c3, ?_, ?_⟩
      · rw [HNM.out]
        rfl
      · rw [HNM.out]
        exact HFE.out.2.2.2
  case stop =>
    rintro D c k W hD hkN ⟨⟨rfl, _, j, hj, hfd⟩, hnx⟩ hKD
    have hnx2 := (nxr_own (β := Unit) (n0 := W4.heap.size) (B := W4.heap.size) (w := w) (fun _ => stL d ss l (bitN left (k - 1))) (fun _ => true) (Nat.le_refl _)).putObj (s := ()) (.deferred none) hnx hD hKD rfl
    obtain ⟨a, c, hbel, hrs, hrb, hown⟩ := hnx2.end (by have := HS4.out; omega)
    have hkj : k - 1 = j := by omega
    rw [hkj] at hrs hown
    have HNM : Hid (nextM d ss l left = (stL d ss l (bitN left j), true)) := by
      show _ = _
      unfold nextM
      rw [hfd]
    have HF := Lib.hid (And.intro hbel hown)
    have HRS := Lib.hid hrs
    have HRB := Lib.hid hrb
    have HKD := Lib.hid hKD
    clear hbel hown hrs hrb hnx hnx2 hfd hKD HSQ
    gi_wp2
    refine ⟨by simp, .inl ⟨_, _, rfl, run_takeDeferred HKD.out, ?_⟩⟩
    refine ⟨_, rl_resCC Tryd.results32 rfl rfl (load_StP HRS.out) (load_boP (RL.at HRB.out (j := 0) rfl)), HF.out.1, a, c, ?_, ?_⟩
    · rw [HNM.out]
      rfl
    · rw [HNM.out]
      exact HF.out.2
end Go.Proofs.YteabclfhmapabaaDoor
