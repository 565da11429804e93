import Derived.Test.YtgfnijhhhgjabaaGreatDoorTermHandQ
section
namespace Go.Proofs.YtgfnijhhhgjabaaGreatDoor
open Go.RowKit Go.Maps
set_option linter.unusedVariables false
set_option linter.unusedSimpArgs false

/-- the six cells of an expression -/
def comp6 (j : Nat) (o : Int) (t : T) (s : Value) : Value := if j = 0 then .int .i8 o else if j = 1 then .string t.v else if j = 2 then .int .i8 t.a.k else if j = 3 then .int .i64 t.a.n else if j = 4 then .string t.a.s else s
/-- what a row of expressions holds whose first k are written -/
def rowE (O : Nat → Int) (U : Nat → T) (S : Nat → Value) (k : Nat) : Nat → Value := fun j => if j / 6 < k then comp6 (j % 6) (O (j / 6)) (U (j / 6)) (S (j / 6)) else comp6 (j % 6) 0 T0 (.slice none 0 0)
theorem rowE_step (O : Nat → Int) (U : Nat → T) (S : Nat → Value) (k j : Nat) (o : Int) (t : T) (s : Value) :
    (if j = k * 6 + 5 then s else if j = k * 6 + 4 then .string t.a.s else if j = k * 6 + 3 then .int .i64 t.a.n else if j = k * 6 + 2 then .int .i8 t.a.k else if j = k * 6 + 1 then .string t.v else if j = k * 6 then .int .i8 o else rowE O U S k j) = rowE (fun i => if i = k then o else O i) (fun i => if i = k then t else U i) (fun i => if i = k then s else S i) (k + 1) j := by
  by_cases e : j / 6 = k
  · have h1 : j / 6 < k + 1 := by omega
    have h3 : j = k * 6 ∨ j = k * 6 + 1 ∨ j = k * 6 + 2 ∨ j = k * 6 + 3 ∨ j = k * 6 + 4 ∨ j = k * 6 + 5 := by omega
    unfold rowE
    rw [if_pos h1, e]
    rcases h3 with rfl | rfl | rfl | rfl | rfl | rfl
    · simp [comp6]
    · simp [comp6, show (k * 6 + 1) % 6 = 1 by omega]
    · simp [comp6, show (k * 6 + 2) % 6 = 2 by omega]
    · simp [comp6, show (k * 6 + 3) % 6 = 3 by omega]
    · simp [comp6, show (k * 6 + 4) % 6 = 4 by omega]
    · simp [comp6, show (k * 6 + 5) % 6 = 5 by omega]
  · have n0 : ¬ j = k * 6 := by omega
    have n1 : ¬ j = k * 6 + 1 := by omega
    have n2 : ¬ j = k * 6 + 2 := by omega
    have n3 : ¬ j = k * 6 + 3 := by omega
    have n4 : ¬ j = k * 6 + 4 := by omega
    have n5 : ¬ j = k * 6 + 5 := by omega
    unfold rowE
    rw [if_neg n5, if_neg n4, if_neg n3, if_neg n2, if_neg n1, if_neg n0]
    by_cases h : j / 6 < k
    · rw [if_pos h, if_pos (by omega)]
      simp [e]
    · rw [if_neg h, if_neg (by omega)]
theorem rowE_at {w : World} {b : Nat} {ty : TypeId} {m : Nat} {O : Nat → Int} {U : Nat → T} {S : Nat → Value} {k : Nat} (h : w.rowIs b ty (m * 6) (rowE O U S k)) {i : Nat} (hi : i < k) (hm : i < m) : XAt w b (i * 6) (O i) (U i) (S i) := by
  refine ⟨?_, ?_, ?_, ?_, ?_, ?_⟩
  · rw [h.cell (by omega)]; simp [rowE, comp6, hi]
  · rw [h.cell (by omega)]; simp [rowE, comp6, show (i * 6 + 1) / 6 = i by omega, show (i * 6 + 1) % 6 = 1 by omega, hi]
  · rw [h.cell (by omega)]; simp [rowE, comp6, show (i * 6 + 2) / 6 = i by omega, show (i * 6 + 2) % 6 = 2 by omega, hi]
  · rw [h.cell (by omega)]; simp [rowE, comp6, show (i * 6 + 3) / 6 = i by omega, show (i * 6 + 3) % 6 = 3 by omega, hi]
  · rw [h.cell (by omega)]; simp [rowE, comp6, show (i * 6 + 4) / 6 = i by omega, show (i * 6 + 4) % 6 = 4 by omega, hi]
  · rw [h.cell (by omega)]; simp [rowE, comp6, show (i * 6 + 5) / 6 = i by omega, show (i * 6 + 5) % 6 = 5 by omega, hi]
theorem made_exprs (w : World) (n : Nat) (O : Nat → Int) (U : Nat → T) (S : Nat → Value) : (w.alloc (.cells (madeCells #[.int .i8 0, .string ⟨#[]⟩, .int .i8 0, .int .i64 0, .string ⟨#[]⟩, .slice none 0 0] (n * 6)) 53)).rowIs w.heap.size 53 (n * 6) (rowE O U S 0) := by
  have h := World.rowIs_alloc w (madeCells #[.int .i8 0, .string ⟨#[]⟩, .int .i8 0, .int .i64 0, .string ⟨#[]⟩, .slice none 0 0] (n * 6)) 53 (rowE O U S 0) (fun i hi => by
    rw [size_madeCells] at hi
    obtain h | h | h | h | h | h : i % 6 = 0 ∨ i % 6 = 1 ∨ i % 6 = 2 ∨ i % 6 = 3 ∨ i % 6 = 4 ∨ i % 6 = 5 := by omega
    all_goals simp [madeCells, hi, rowE, comp6, h, T0, V0, noS])
  rwa [size_madeCells] at h
theorem infoE : (Tryz.prog.info? 53).map (fun i => (i.zero, i.size, i.bytes)) = some (some (.agg #[.int .i8 0, .string ⟨#[]⟩, .int .i8 0, .int .i64 0, .string ⟨#[]⟩, .slice none 0 0]), 6, 80) := by kernel_rfl
theorem run_make_exprs (n : Nat) (hn : n ≤ 1048576) (w : World) :
    (Instr.makeSlice 51 (.int .i64 ((n : Int) + 1)) (.int .i64 ((n : Int) + 1))).run Tryz.prog w = .ok (.slice (some ⟨w.heap.size, 0, none⟩) (n + 1) (n + 1)) (w.alloc (.cells (madeCells #[.int .i8 0, .string ⟨#[]⟩, .int .i8 0, .int .i64 0, .string ⟨#[]⟩, .slice none 0 0] ((n + 1) * 6)) 53)) := by
  have h := infoE
  obtain ⟨i, hi, he⟩ := Option.map_eq_some_iff.1 h
  simp only [Prod.mk.injEq] at he
  obtain ⟨h1, h2, h3⟩ := he
  have := run_make (P := Tryz.prog) w 51 53 i _ Tryz.underlying51 hi h1 .i64 .i64 ((n : Int) + 1) ((n : Int) + 1) (by omega) (Int.le_refl _) (by rw [h3]; omega) (by omega)
  rw [this, h2, show ((n : Int) + 1).toNat = n + 1 by omega]
  rfl

/-- no list within has more than 2^20 -/
def smallE : Nat → E → Prop
  | 0, _ => True
  | d + 1, e => e.kids.length ≤ 1048576 ∧ ∀ i, i < e.kids.length → smallE d (atE e.kids i)
/-- a copy: a row of its own for the kids, with a mark behind it -/
def markW : ByteArray := ⟨#[35, 55, 55, 55, 55, 55, 55]⟩
def TwIs (w : World) (lo : Nat) : Nat → E → Option Addr → Nat → Prop
  | 0, _, _, _ => False
  | d + 1, e, a, c => c = e.kids.length + 1 ∧ ∃ g, a = some ⟨g, 0, none⟩ ∧ lo ≤ g ∧ g < w.heap.size ∧ XAt w g (e.kids.length * 6) 99 ⟨markW, V0⟩ (.slice none 0 0) ∧
    ∀ i, i < e.kids.length → ∃ a' c', XAt w g (i * 6) (atE e.kids i).op (atE e.kids i).t (.slice a' (atE e.kids i).kids.length c') ∧ TwIs w lo d (atE e.kids i) a' c'
theorem XAt.of {w w' : World} {g o : Nat} {op : Int} {t : T} {s : Value} (h : XAt w g o op t s) (e : w'.heap[g]? = w.heap[g]?) : XAt w' g o op t s := by
  have hc : ∀ j, w'.cell? ⟨g, j, none⟩ = w.cell? ⟨g, j, none⟩ := fun j => by unfold World.cell?; rw [e]
  exact ⟨(hc _).trans h.c0, (hc _).trans h.c1, (hc _).trans h.c2, (hc _).trans h.c3, (hc _).trans h.c4, (hc _).trans h.c5⟩
theorem TwIs.of {w w' : World} {lo : Nat} (hs : w.heap.size ≤ w'.heap.size) (hh : ∀ k, lo ≤ k → k < w.heap.size → w'.heap[k]? = w.heap[k]?) : ∀ {d : Nat} {e : E} {a : Option Addr} {c : Nat}, TwIs w lo d e a c → TwIs w' lo d e a c
  | 0, _, _, _, h => h
  | d + 1, e, a, c, h => by
    obtain ⟨h1, g, h2, hl, hg, hm, hk⟩ := h
    refine ⟨h1, g, h2, hl, Nat.lt_of_lt_of_le hg hs, hm.of (hh g hl hg), fun i hi => ?_⟩
    obtain ⟨a', c', hx, he⟩ := hk i hi
    exact ⟨a', c', hx.of (hh g hl hg), he.of hs hh⟩
theorem TwIs.below {w w' : World} {lo : Nat} (b : Below w.heap.size w w') {d : Nat} {e : E} {a : Option Addr} {c : Nat} (h : TwIs w lo d e a c) : TwIs w' lo d e a c := h.of b.size (fun k _ hk => b.block k hk)
theorem TwIs.set {w : World} {lo b j : Nat} {v : Value} (hb : b < lo) {d : Nat} {e : E} {a : Option Addr} {c : Nat} (h : TwIs w lo d e a c) : TwIs (w.setCell ⟨b, j, none⟩ v) lo d e a c :=
  h.of (by simp) (fun k hk _ => heap_setCell_other _ _ _ _ (by show k ≠ b; omega))
theorem TwIs.lower {w : World} {lo lo' : Nat} (hl : lo' ≤ lo) : ∀ {d : Nat} {e : E} {a : Option Addr} {c : Nat}, TwIs w lo d e a c → TwIs w lo' d e a c
  | 0, _, _, _, h => h
  | d + 1, e, a, c, h => by
    obtain ⟨h1, g, h2, h3, hg, hm, hk⟩ := h
    refine ⟨h1, g, h2, Nat.le_trans hl h3, hg, hm, fun i hi => ?_⟩
    obtain ⟨a', c', hx, he⟩ := hk i hi
    exact ⟨a', c', hx, he.lower hl⟩
theorem TwIs.eis {w w0 : World} {lo : Nat} : ∀ {d : Nat} {e : E} {a a0 : Option Addr} {c c0 : Nat}, TwIs w lo d e a c → EIs w0 d e a0 c0 → EIs w d e a c
  | 0, _, _, _, _, _, h, _ => h.elim
  | d + 1, e, a, a0, c, c0, h, h0 => by
    obtain ⟨rfl, g, rfl, _, hg, hm, hk⟩ := h
    obtain ⟨e1, e2, e3, e4, e5⟩ := h0
    refine ⟨e1, e2, by omega, by unfold maxLen; omega, fun hp => ⟨g, 0, rfl, hg, fun i hi => ?_⟩⟩
    obtain ⟨_, _, _, _, hK⟩ := e5 hp
    obtain ⟨a1, c1, _, hE1⟩ := hK i hi
    obtain ⟨a', c', hx, he⟩ := hk i hi
    rw [Nat.zero_add]
    exact ⟨a', c', hx, he.eis hE1⟩
end Go.Proofs.YtgfnijhhhgjabaaGreatDoor
end
section
namespace Go.Proofs.YtgfnijhhhgjabaaGreatDoor
open Go.RowKit Go.Maps
set_option linter.unusedVariables false
set_option linter.unusedSimpArgs false
attribute [local go_sem ↓] Go.wp_at_zero Go.wp_at_succ

/-- an expression, and where its kids lie -/
structure X where
  e : E
  a : Option Addr
  c : Nat
def X.cells (x : X) : List Value := [.int .i8 x.e.op, .string x.e.t.v, .int .i8 x.e.t.a.k, .int .i64 x.e.t.a.n, .string x.e.t.a.s, .slice x.a x.e.kids.length x.c]
def X0 : X := ⟨E0, none, 0⟩
def atX (l : List X) (i : Nat) : X := l.getD i X0
theorem atX_eq {l : List X} {i : Nat} (h : i < l.length) : atX l i = l[i] := by simp [atX, List.getD, List.getElem?_eq_getElem h]
/-- a list of expressions in memory -/
structure Lx (w : World) (v : Value) (d : Nat) (l : List X) : Prop where
  lies : Ls w v l.length (l.flatMap X.cells)
  each : ∀ x ∈ l, EIs w d x.e x.a x.c
theorem Lx.below {w w' : World} {v : Value} {d : Nat} {l : List X} (h : Lx w v d l) (b : Below w.heap.size w w') : Lx w' v d l := ⟨h.lies.below b, fun x hx => (h.each x hx).below b⟩
theorem Lx.form {w : World} {v : Value} {d : Nat} {l : List X} (h : Lx w v d l) : ∃ a c, v = .slice a l.length c ∧ l.length ≤ c ∧ c ≤ maxLen ∧ (0 < l.length → ∃ g off, a = some ⟨g, off, none⟩ ∧ g < w.heap.size ∧ ∀ i, i < l.length → XAt w g (off + i * 6) (atX l i).e.op (atX l i).e.t (.slice (atX l i).a (atX l i).e.kids.length (atX l i).c)) := by
  obtain ⟨hn, a, c, hv, h1, h2, hc⟩ := h.lies
  refine ⟨a, c, hv, h1, h2, fun h0 => ?_⟩
  obtain ⟨g, off, ha, hg, hf⟩ := hc h0
  refine ⟨g, off, ha, hg, fun i hi => ⟨?_, ?_, ?_, ?_, ?_, ?_⟩⟩
  · have := hf.elem (k := 6) (fun _ => rfl) X0 hi (j := 0) (by omega) rfl; rw [← Nat.add_assoc] at this; exact this
  · have := hf.elem (k := 6) (fun _ => rfl) X0 hi (j := 1) (by omega) rfl; rw [← Nat.add_assoc] at this; exact this
  · have := hf.elem (k := 6) (fun _ => rfl) X0 hi (j := 2) (by omega) rfl; rw [← Nat.add_assoc] at this; exact this
  · have := hf.elem (k := 6) (fun _ => rfl) X0 hi (j := 3) (by omega) rfl; rw [← Nat.add_assoc] at this; exact this
  · have := hf.elem (k := 6) (fun _ => rfl) X0 hi (j := 4) (by omega) rfl; rw [← Nat.add_assoc] at this; exact this
  · have := hf.elem (k := 6) (fun _ => rfl) X0 hi (j := 5) (by omega) rfl; rw [← Nat.add_assoc] at this; exact this
theorem flatX_len (l : List X) : (l.flatMap X.cells).length = l.length * 6 := flat_len X.cells 6 (fun _ => rfl) l
theorem lx_one {g : Nat} (w : World) (hg : g = w.heap.size) (x : X) (d : Nat) (h : EIs w d x.e x.a x.c) : Lx (w.alloc (.cells #[.int .i8 x.e.op, .string x.e.t.v, .int .i8 x.e.t.a.k, .int .i64 x.e.t.a.n, .string x.e.t.a.s, .slice x.a x.e.kids.length x.c] 53)) (.slice (some ⟨g, 0, none⟩) 1 1) d [x] := by
  subst hg
  refine ⟨?_, fun y hy => ?_⟩
  · have := ls_own (World.ownsRow_lit (base := 0) (e := 53) (size := 6) w #[.int .i8 x.e.op, .string x.e.t.v, .int .i8 x.e.t.a.k, .int .i64 x.e.t.a.n, .string x.e.t.a.s, .slice x.a x.e.kids.length x.c] 1 (Nat.zero_le _) (by decide) rfl)
    simpa [X.cells] using this
  · obtain rfl := List.mem_singleton.1 hy
    exact h.below ((Below.refl _ _).alloc (Nat.le_refl _) _)
theorem small_step {d : Nat} {x : X} {K : List X} (h1 : x.e.kids.length ≤ 1048576) (hK : K.map X.e = x.e.kids) (hs : ∀ y ∈ K, smallE d y.e) : smallE (d + 1) x.e := by
  refine ⟨h1, fun i hi => ?_⟩
  rw [atE_eq hi]
  have : x.e.kids[i] ∈ K.map X.e := by rw [hK]; exact List.getElem_mem hi
  obtain ⟨y, hy, he⟩ := List.mem_map.1 this
  rw [← he]
  exact hs y hy
set_option maxHeartbeats 6400000 in
theorem exprParts_any (d : Nat) (e : E) (a : Option Addr) (c : Nat) (w : World) (hE : EIs w d e a c) (lf : Nat) (hlf : lf ≤ 1048576) :
    Calls Tryz.prog 53 #[e.val a c, .int .i64 (lf : Int)] w fun r w' => ∃ n : Int, r = .returned (.int .i64 n) ∧ Below w.heap.size w w' ∧ (0 ≤ n ∧ n ≤ (lf : Int) + 1) ∧ (n ≤ (lf : Int) → smallE d e) := by
  obtain ⟨i0, hi0, hz0, hz1, hz2⟩ := info_parts infoE
  have BA := (Below.refl w.heap.size w).alloc (Nat.le_refl _) (.cells #[.int .i8 e.op, .string e.t.v, .int .i8 e.t.a.k, .int .i64 e.t.a.n, .string e.t.a.s, .slice a e.kids.length c] 53)
  have HL0 : Hid (Lx _ (.slice (some ⟨w.heap.size + 1, 0, none⟩) 1 1) d [⟨e, a, c⟩]) := lx_one (w.alloc (.cells #[.int .i8 e.op, .string e.t.v, .int .i8 e.t.a.k, .int .i64 e.t.a.n, .string e.t.a.s, .slice a e.kids.length c] 53)) (by simp) ⟨e, a, c⟩ d (hE.below BA)
  have HB0 : Hid (Below w.heap.size w _) := BA.alloc BA.size (.cells #[.int .i8 e.op, .string e.t.v, .int .i8 e.t.a.k, .int .i64 e.t.a.n, .string e.t.a.s, .slice a e.kids.length c] 53)
  clear hE BA
  unfold E.val
  go_enter Tryz.func53, Tryz.ntmps53
  go_wp2
  go_loopw [5, 6, 7] (fun n lv dp wr => ∃ (nn dd dpt : Nat) (L : List X), n = .int .i64 nn ∧ dp = .int .i64 dd ∧ nn ≤ lf ∧ L.length ≤ 1048576 ∧ dd ≤ 65537 ∧ Below w.heap.size w wr ∧ Hid (Lx wr lv dpt L) ∧ Hid ((∀ x ∈ L, smallE dpt x.e) → smallE d e)) (fun _ _ dp _ => 70000 - (intOf dp).toNat)
  case atStart => exact ⟨0, 0, d, [⟨e, a, c⟩], rfl, rfl, by omega, by simp, by omega, HB0.out, HL0.out, fun h => h ⟨e, a, c⟩ (by simp)⟩
  case round =>
    obtain ⟨nn, dd, dpt, L, rfl, rfl, hnn, hLl, hdd, bel, HLx, HSm⟩ := hrel
    obtain ⟨la, lc, rfl, hlc1, hlc2, hat⟩ := HLx.out.form
    clear HL0 HB0
    by_cases hL0 : 0 < L.length
    · have hL0' : (0 : Int) < (L.length : Int) := by omega
      obtain ⟨lg, lo, rfl, hlg, hLat⟩ := hat hL0
      have HAT : Hid _ := hLat
      clear hat hLat
      by_cases hbig : nn + L.length > lf
      · have hb1 : (lf : Int) < (nn : Int) + (L.length : Int) := by omega
        go_wp2
        go_ret
        exact ⟨_, rfl, bel, ⟨by omega, by omega⟩, fun h => absurd h (by omega)⟩
      · have hb1 : ¬ (lf : Int) < (nn : Int) + (L.length : Int) := by omega
        by_cases hdeep : dd > 65536
        · have hd1 : (65536 : Int) < (dd : Int) := by omega
          go_wp2
          go_ret
          exact ⟨_, rfl, bel, ⟨by omega, by omega⟩, fun h => absurd h (by omega)⟩
        · have hd1 : ¬ (65536 : Int) < (dd : Int) := by omega
          cases dpt with
          | zero => exact absurd (HLx.out.each L[0] (List.getElem_mem hL0)) (fun h => h)
          | succ dp =>
          obtain ⟨W1, rfl⟩ : ∃ W1, W1 = wr := ⟨_, rfl⟩
          obtain ⟨M, hM⟩ : ∃ M : Nat, nn + L.length = M := ⟨_, rfl⟩
          have hM1 : (nn : Int) + (L.length : Int) = (M : Int) := by omega
          have hM2 : M ≤ lf := by omega
          have HEa : Hid _ := HLx.out.each
          have hM3 : ¬ (lf : Int) < (M : Int) := by omega
          clear hb1 hbig HLx hM
          go_wp2
          go_loopw [8, 9] (fun nx i wr2 => ∃ (k : Nat) (N : List X), k ≤ L.length ∧ i = .int .i64 k ∧ M + N.length ≤ lf ∧ Below W1.heap.size W1 wr2 ∧ Hid (wr2.ownsRow W1.heap.size 53 6 nx N.length (N.flatMap X.cells)) ∧ Hid (∀ x ∈ N, EIs W1 dp x.e x.a x.c) ∧ Hid ((∀ x ∈ N, smallE dp x.e) → ∀ x ∈ L.take k, smallE (dp + 1) x.e)) (fun _ i _ => L.length - (intOf i).toNat)
          case atStart => exact ⟨0, [], Nat.zero_le _, rfl, by simpa using hM2, Below.refl _ _, ⟨rfl, .inl ⟨rfl, rfl⟩⟩, fun x hx => by simp at hx, fun _ x hx => by simp at hx⟩
          case round =>
            obtain ⟨k, N, hk, rfl, hN, bel2, HO, HEN, HSN⟩ := hrel
            obtain ⟨na, nc, rfl, hnl⟩ := own_form HO.out
            by_cases hlt : k < L.length
            · have hlt' : (k : Int) < (L.length : Int) := by omega
              have x5 := ((HAT.out k hlt).below bel2 hlg).c5
              have HEx : Hid (EIs W1 (dp + 1) (atX L k).e (atX L k).a (atX L k).c) := by rw [atX_eq hlt]; exact HEa.out _ (List.getElem_mem hlt)
              have HTk : Hid (L.take (k + 1) = L.take k ++ [atX L k]) := by show _ = _; rw [List.take_add_one, List.getElem?_eq_getElem hlt, atX_eq hlt]; rfl
              have hlt0 := hlt
              obtain ⟨x, hxx⟩ : ∃ x, atX L k = x := ⟨_, rfl⟩
              rw [hxx] at x5 HEx HTk
              have HXe : Hid _ := hxx
              clear hxx
              obtain ⟨hxo, hxt, hxc1, hxc2, hxk⟩ := HEx.out
              have hkl := hxo.2
              have HXK : Hid _ := hxk
              clear hxk hxo hxt HEx
              by_cases hbk : M + N.length + x.e.kids.length > lf
              · have hb1 : (lf : Int) < (M : Int) + (N.length : Int) + (x.e.kids.length : Int) := by omega
                go_wp2
                go_ret
                exact ⟨_, rfl, bel.trans (bel2.mono bel.size), ⟨by omega, by omega⟩, fun h => absurd h (by omega)⟩
              · have hb1 : ¬ (lf : Int) < (M : Int) + (N.length : Int) + (x.e.kids.length : Int) := by omega
                have hkb : M + N.length + x.e.kids.length ≤ lf := by omega
                clear hbk
                go_wp2
                obtain ⟨W2, rfl⟩ : ∃ W2, W2 = wr := ⟨_, rfl⟩
                go_loopw [8, 10] (fun nx i wr3 => ∃ (m : Nat) (K : List X), m ≤ x.e.kids.length ∧ i = .int .i64 m ∧ Below W1.heap.size W1 wr3 ∧ Hid (K.map X.e = x.e.kids.take m) ∧ Hid (wr3.ownsRow W1.heap.size 53 6 nx (N ++ K).length ((N ++ K).flatMap X.cells)) ∧ Hid (∀ y ∈ N ++ K, EIs W1 dp y.e y.a y.c)) (fun _ i _ => x.e.kids.length - (intOf i).toNat)
                case atStart => exact ⟨0, [], Nat.zero_le _, rfl, bel2, by simp [Hid], by simp only [List.append_nil]; exact HO.out, by simp only [List.append_nil]; exact HEN.out⟩
                case round =>
                  obtain ⟨m, K, hm, rfl, bel3, HKm, HO3, HE3⟩ := hrel
                  have hKl : K.length = m := by have := congrArg List.length HKm.out; rw [List.length_map, List.length_take] at this; omega
                  obtain ⟨na3, nc3, rfl, hnl3⟩ := own_form HO3.out
                  have z5 := ((HAT.out k hlt0).below bel3 hlg).c5
                  rw [HXe.out] at z5
                  by_cases hmt : m < x.e.kids.length
                  · have hmt' : (m : Int) < (x.e.kids.length : Int) := by omega
                    obtain ⟨g3, o3, hxa, hg3, hKS⟩ := HXK.out (by omega)
                    obtain ⟨a3, c3, hy, hyE⟩ := hKS m hmt
                    obtain ⟨y0, y1, y2, y3, y4, y5⟩ := hy.below bel3 hg3
                    rw [hxa] at z5
                    clear hxa
                    have HKn : Hid (x.e.kids.take (m + 1) = x.e.kids.take m ++ [atE x.e.kids m]) := by show _ = _; rw [List.take_add_one, List.getElem?_eq_getElem hmt, atE_eq hmt]; rfl
                    generalize atE x.e.kids m = ke at y0 y1 y2 y3 y4 y5 hyE HKn
                    have HyE : Hid _ := hyE
                    have hnk : (N ++ K).length ≤ 1048576 := by rw [List.length_append]; omega
                    have hflat := flatX_len (N ++ K)
                    obtain ⟨fl, hfl⟩ : ∃ fl, (N ++ K).flatMap X.cells = fl := ⟨_, rfl⟩
                    obtain ⟨nl, hnl⟩ : ∃ nl, (N ++ K).length = nl := ⟨_, rfl⟩
                    rw [hfl, hnl] at HO3
                    rw [hnl] at hnk hflat
                    rw [hfl] at hflat
                    have HFL : Hid _ := hfl
                    have HNL : Hid _ := hnl
                    have hnk' : (nl : Int) < 1048577 := by omega
                    have HB3 : Hid (Below W1.heap.size W1 _) := bel3.alloc bel3.size (.cells #[.int .i8 ke.op, .string ke.t.v, .int .i8 ke.t.a.k, .int .i64 ke.t.a.n, .string ke.t.a.s, .slice a3 ke.kids.length c3] 53)
                    rw [hnl]
                    clear hKS hy hyE hfl hnl hflat
                    go_wp2_with (first
                      | (at_builtin; refine wpList_append_own_at _ rfl _ _ 51 rfl W1.heap.size 53 i0 _ 6 80 Tryz.underlying51 hi0 hz0 hz1 hz2 rfl (by decide) _ _ _ rfl (own_below HO3.out ((Below.refl _ _).alloc (Nat.le_refl _) _)) ⟨wr.heap.size, 0, none⟩ 1 1 [.int .i8 ke.op, .string ke.t.v, .int .i8 ke.t.a.k, .int .i64 ke.t.a.n, .string ke.t.a.s, .slice a3 ke.kids.length c3] rfl rfl (lit_news wr #[.int .i8 ke.op, .string ke.t.v, .int .i8 ke.t.a.k, .int .i64 ke.t.a.n, .string ke.t.a.s, .slice a3 ke.kids.length c3] _) (by simp [Value.oneCell']) (by unfold maxLen; omega) (by omega) (by have := bel3.size; simp; omega) ?_; intro v' w2 hown' hgrow hnil hloc)
                      | fail)
                    have hB4 : Below W1.heap.size W1 w2 := HB3.out.grown hgrow (by have := bel3.size; simp; omega) (fun q hq => (HO3.out.lt q hq).1)
                    have hO4 : w2.ownsRow W1.heap.size 53 6 v' (N ++ (K ++ [(⟨ke, a3, c3⟩ : X)])).length ((N ++ (K ++ [(⟨ke, a3, c3⟩ : X)])).flatMap X.cells) := by
                      rw [← List.append_assoc, List.flatMap_append, HFL.out, List.length_append, HNL.out]
                      exact hown'
                    go_roundw
                    case rel => exact ⟨m + 1, K ++ [(⟨ke, a3, c3⟩ : X)], by omega, by go_num, hB4, by show _ = _; rw [List.map_append, HKm.out, HKn.out]; rfl, hO4, fun y hy => by
                      rw [← List.append_assoc, List.mem_append] at hy
                      rcases hy with hy | hy
                      · exact HE3.out y hy
                      · obtain rfl := List.mem_singleton.1 hy
                        exact HyE.out⟩
                    case measure => simp [intOf]; omega
                  · obtain rfl : m = x.e.kids.length := by omega
                    rw [List.take_length] at HKm
                    have HSn : Hid ((∀ y ∈ N ++ K, smallE dp y.e) → ∀ y ∈ L.take (k + 1), smallE (dp + 1) y.e) := fun h y hy => by
                      rw [HTk.out, List.mem_append] at hy
                      rcases hy with hy | hy
                      · exact HSN.out (fun z hz => h z (List.mem_append_left _ hz)) y hy
                      · obtain rfl := List.mem_singleton.1 hy
                        exact small_step (by omega) HKm.out (fun z hz => h z (List.mem_append_right _ hz))
                    go_wp2
                    go_roundw
                    case rel => exact ⟨k + 1, N ++ K, by omega, by go_num, by rw [List.length_append]; omega, bel3, HO3.out, HE3.out, HSn.out⟩
                    case measure => simp [intOf]; omega
            · obtain rfl : k = L.length := by omega
              have HFin : Hid ((∀ x ∈ N, smallE dp x.e) → smallE d e) := fun h => HSm.out (by have := HSN.out h; rwa [List.take_length] at this)
              have HLN : Hid (Lx wr (.slice na N.length nc) dp N) := ⟨ls_own HO.out, fun x hx => (HEN.out x hx).below bel2⟩
              go_wp2
              go_roundw
              case rel => exact ⟨M, dd + 1, dp, N, rfl, by go_num, hM2, by omega, by omega, bel.trans (bel2.mono bel.size), HLN, HFin⟩
              case measure => simp [intOf]; omega
    · have hL0' : ¬ (0 : Int) < (L.length : Int) := by omega
      have HN : Hid (smallE d e) := HSm.out (fun x hx => absurd (List.length_pos_of_mem hx) hL0)
      clear hat
      go_wp2
      go_ret
      exact ⟨_, rfl, bel, ⟨by omega, by omega⟩, fun _ => HN.out⟩
end Go.Proofs.YtgfnijhhhgjabaaGreatDoor
end
