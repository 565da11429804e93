import Derived.Test.YtoppgalbmijhdaaGreatDoorEsSz
import Derived.Test.YtoppgalbmijhdaaGreatDoorSoTw
import Derived.BigQuiet
import Derived.Deep.RegionHeld3
namespace Go.Proofs.YtoppgalbmijhdaaGreatDoor
open Go.RowKit Go.Maps Go.ChangeMaps
set_option linter.unusedVariables false
set_option linter.unusedSimpArgs false
attribute [local go_sem ↓] Go.wp_at_zero Go.wp_at_succ
attribute [-go_sem] loadVar storeVar

/-! sizes that are the same -/
theorem next_ofZ {wc u v : World} (h : Below wc.heap.size wc u) (b : Below u.heap.size u v) : Below wc.heap.size wc v := h.trans (b.mono h.size)
structure Zl (w : World) (sa : Option Addr) (sc : Nat) (zs : List ZS) : Prop where
  lies : Ls w (.slice sa zs.length sc) zs.length (zs.flatMap ZS.cells)
  ds : ∀ z ∈ zs, Ls w (.slice z.a z.ds.length z.c) z.ds.length (z.ds.map iC) ∧ z.pr.size ≤ maxLen
theorem Zl.below {w w' : World} {sa : Option Addr} {sc : Nat} {zs : List ZS} (h : Zl w sa sc zs) (hb : Below w.heap.size w w') : Zl w' sa sc zs := ⟨h.lies.below hb, fun z hz => ⟨(h.ds z hz).1.below hb, (h.ds z hz).2⟩⟩
def ZS0 : ZS := ⟨noS, 0, [], none, 0⟩
def atZS (l : List ZS) (i : Nat) : ZS := l.getD i ZS0
theorem atZS_eq {l : List ZS} {i : Nat} (h : i < l.length) : atZS l i = l[i] := by simp [atZS, List.getD, List.getElem?_eq_getElem h]
theorem Zl.form {w : World} {sa : Option Addr} {sc : Nat} {zs : List ZS} (h : Zl w sa sc zs) : zs.length ≤ maxLen ∧ (0 < zs.length → ∃ g off, sa = some ⟨g, off, none⟩ ∧ g < w.heap.size ∧ ∀ i, i < zs.length → w.rangeAt g (off + i * 3) (atZS zs i).cells) := by
  obtain ⟨a, c, e, h1, h2, h3⟩ := ls_range (f := ZS.cells) (k := 3) (fun _ => rfl) ZS0 h.lies
  injection e with e1 e2 e3
  subst e1 e3
  exact ⟨Nat.le_trans h1 h2, h3⟩
theorem ints_form {w : World} {a : Option Addr} {c : Nat} {ds : List Nat} (h : Ls w (.slice a ds.length c) ds.length (ds.map iC)) : ds.length ≤ maxLen ∧ (0 < ds.length → ∃ g off, a = some ⟨g, off, none⟩ ∧ g < w.heap.size ∧ ∀ i d, ds[i]? = some d → w.cell? ⟨g, off + i, none⟩ = some (.int .i64 (d : Nat))) := by
  obtain ⟨hn, a', c', e, h1, h2, h3⟩ := h
  injection e with e1 e2 e3
  subst e1 e3
  refine ⟨hn, fun h0 => ?_⟩
  obtain ⟨g, off, rfl, hg, hf⟩ := h3 h0
  refine ⟨g, off, rfl, hg, fun i d hi => ?_⟩
  obtain ⟨i1, i2⟩ := List.getElem?_eq_some_iff.1 hi
  have := hf i (by simpa using i1)
  rw [this]
  simp [iC, i2]
theorem load_Int {u : World} {g o : Nat} {n : Int} (h : u.cell? ⟨g, o, none⟩ = some (.int .i64 n)) : (loadVar 3 ⟨g, o, none⟩).run Tryz.prog u = .ok (.int .i64 n) u := by
  unfold loadVar
  go_simp
theorem load_Siz {u : World} {g o : Nat} {z : ZS} (h : u.rangeAt g o z.cells) : (loadVar 36 ⟨g, o, none⟩).run Tryz.prog u = .ok (.agg z.cells.toArray) u :=
  run_loadVar_mid u g o _ z.cells _ h Tryz.underlying36 rfl (by kernel_rfl)
attribute [go_sem] loadVar
set_option maxHeartbeats 3200000 in
theorem sameI_same (a a' : Option Addr) (c c' : Nat) (ds : List Nat) (w : World) (h1 : Ls w (.slice a ds.length c) ds.length (ds.map iC)) (h2 : Ls w (.slice a' ds.length c') ds.length (ds.map iC)) :
    Calls Tryz.prog 28 #[.slice a ds.length c, .slice a' ds.length c'] w fun r w' => r = .returned (.bool true) ∧ Below w.heap.size w w' := by
  obtain ⟨hmax, hk⟩ := ints_form h1
  obtain ⟨_, hk'⟩ := ints_form h2
  unfold maxLen at hmax
  have HK := Lib.hid hk
  have HK' := Lib.hid hk'
  clear hk hk' h1 h2
  go_enter Tryz.func28, Tryz.ntmps28
  go_wp2
  go_loopw [5] (fun i wr => ∃ k : Nat, k ≤ ds.length ∧ i = .int .i64 k ∧ Below w.heap.size w wr) (fun i _ => ds.length - (intOf i).toNat)
  case atStart => exact ⟨0, Nat.zero_le _, rfl, Below.refl _ _⟩
  case round =>
    obtain ⟨k, hk, rfl, bel⟩ := hrel
    by_cases hlt : k < ds.length
    · have hlt' : (k : Int) < (ds.length : Int) := by omega
      have hk0 : (0 : Int) ≤ (k : Int) := by omega
      obtain ⟨d, hd⟩ : ∃ d, ds[k]? = some d := ⟨_, List.getElem?_eq_getElem hlt⟩
      obtain ⟨g, off, rfl, hg, hc⟩ := HK.out (by omega)
      obtain ⟨g', off', rfl, hg', hc'⟩ := HK'.out (by omega)
      have x1 : wr.cell? ⟨g, off + k, none⟩ = some (.int .i64 (d : Nat)) := by rw [bel.cell (p := ⟨g, off + k, none⟩) hg]; exact hc k d hd
      have x2 : wr.cell? ⟨g', off' + k, none⟩ = some (.int .i64 (d : Nat)) := by rw [bel.cell (p := ⟨g', off' + k, none⟩) hg']; exact hc' k d hd
      have HB := Lib.hid bel
      clear hc hc' hd hg hg' bel
      go_wp2_with fail
      go_quiet (fail)
      have HBq := Lib.hid (HB.out.trans ((below_drewV (Below.refl _ wr) nq).mono HB.out.size))
      go_wp2
      go_roundw
      case rel => exact ⟨k + 1, by omega, by go_num, HBq.out⟩
      case measure => simp [intOf]; omega
    · obtain rfl : k = ds.length := by omega
      go_wp2
      go_ret
      exact ⟨rfl, bel⟩
set_option maxHeartbeats 3200000 in
set_option maxRecDepth 100000 in
theorem sameS_same (y z : ZS) (w : World) (hs : y.sz = z.sz) (h1 : Ls w (.slice y.a y.ds.length y.c) y.ds.length (y.ds.map iC)) (h2 : Ls w (.slice z.a z.ds.length z.c) z.ds.length (z.ds.map iC)) :
    Calls Tryz.prog 15 #[.agg y.cells.toArray, .agg z.cells.toArray] w fun r w' => r = .returned (.bool true) ∧ Below w.heap.size w w' := by
  obtain ⟨p, n, ds, a, c⟩ := y
  obtain ⟨p', n', ds', a', c'⟩ := z
  injection hs with e1 e2 e3
  simp only at e1 e2 e3 h1 h2
  subst e1 e2 e3
  unfold ZS.cells
  simp only
  have hA : Below w.heap.size w ((w.alloc (.cells #[.string p, .int .i64 (n : Nat), .slice a ds.length c] 36)).alloc (.cells #[.string p, .int .i64 (n : Nat), .slice a' ds.length c'] 36)) := ((Below.refl _ _).alloc (Nat.le_refl _) _).alloc (by simp) _
  have HC := Lib.hid (sameI_same a a' c c' ds _ (h1.below hA) (h2.below hA))
  have HA := Lib.hid hA
  clear h1 h2 hA
  go_enter Tryz.func15, Tryz.ntmps15
  go_wp2_with fail
  refine HC.out.mono ?_
  rintro e w2 ⟨rfl, b2⟩
  go_wp2
  go_ret
  exact ⟨rfl, HA.out.trans (b2.mono HA.out.size)⟩
attribute [-go_sem] loadVar
set_option maxHeartbeats 3200000 in
theorem sameSs_same (sa sa' : Option Addr) (sc sc' : Nat) (l m : List ZS) (w : World) (h1 : Zl w sa sc l) (h2 : Zl w sa' sc' m) (hkey : l.map ZS.sz = m.map ZS.sz) :
    Calls Tryz.prog 7 #[.slice sa l.length sc, .slice sa' m.length sc'] w fun r w' => r = .returned (.bool true) ∧ Below w.heap.size w w' := by
  have hlen : m.length = l.length := by have := congrArg List.length hkey; simpa using this.symm
  have hat : ∀ i, i < l.length → (atZS l i).sz = (atZS m i).sz := fun i hi => by
    have := congrArg (fun z => z[i]?) hkey
    simp only [List.getElem?_map, List.getElem?_eq_getElem hi, List.getElem?_eq_getElem (show i < m.length by omega), Option.map_some, Option.some.injEq] at this
    rw [atZS_eq hi, atZS_eq (by omega)]
    exact this
  have HC : Hid (∀ i, i < l.length → ∀ u, Below w.heap.size w u → Calls Tryz.prog 15 #[.agg (atZS l i).cells.toArray, .agg (atZS m i).cells.toArray] u fun r w' => r = .returned (.bool true) ∧ Below u.heap.size u w') := fun i hi u hu => sameS_same _ _ u (hat i hi) (((h1.ds (atZS l i) (by rw [atZS_eq hi]; exact List.getElem_mem hi)).1.below hu)) (((h2.ds (atZS m i) (by rw [atZS_eq (by omega)]; exact List.getElem_mem _)).1.below hu))
  obtain ⟨hmax, hk⟩ := h1.form
  obtain ⟨_, hk'⟩ := h2.form
  unfold maxLen at hmax
  rw [hlen] at hk' ⊢
  have HK : Hid _ := hk
  have HK' : Hid _ := hk'
  clear hk hk' h1 h2 hkey hat hlen
  go_enter Tryz.func7, Tryz.ntmps7
  go_wp2
  go_loopw [5] (fun i wr => ∃ k : Nat, k ≤ l.length ∧ i = .int .i64 k ∧ Below w.heap.size w wr) (fun i _ => l.length - (intOf i).toNat)
  case atStart => exact ⟨0, Nat.zero_le _, rfl, Below.refl _ _⟩
  case round =>
    obtain ⟨k, hk, rfl, bel⟩ := hrel
    by_cases hlt : k < l.length
    · have hlt' : (k : Int) < (l.length : Int) := by omega
      have hk0 : (0 : Int) ≤ (k : Int) := by omega
      obtain ⟨g, off, rfl, hg, hKS⟩ := HK.out (by omega)
      obtain ⟨g', off', rfl, hg', hKS'⟩ := HK'.out (by omega)
      have HL1 : Hid (∀ u, Below w.heap.size w u → (loadVar 36 ⟨g, off + k * 3, none⟩).run Tryz.prog u = .ok (.agg (atZS l k).cells.toArray) u) := fun u hu => load_Siz (range_below (hKS k hlt) hu hg)
      have HL2 : Hid (∀ u, Below w.heap.size w u → (loadVar 36 ⟨g', off' + k * 3, none⟩).run Tryz.prog u = .ok (.agg (atZS m k).cells.toArray) u) := fun u hu => load_Siz (range_below (hKS' k hlt) hu hg')
      have HI : Hid _ := HC.out k hlt
      generalize Value.agg (atZS l k).cells.toArray = QV at HL1 HI
      generalize Value.agg (atZS m k).cells.toArray = RV at HL2 HI
      have hl1 : ∀ u, Below w.heap.size w u → (loadVar 36 ⟨g, off + k * 3, none⟩).run Tryz.prog u = .ok QV u := HL1.out
      have hl2 : ∀ u, Below w.heap.size w u → (loadVar 36 ⟨g', off' + k * 3, none⟩).run Tryz.prog u = .ok RV u := HL2.out
      have hS0 := bel
      clear hKS hKS' HL1 HL2
      go_wp2_with fail
      go_region_held3 (fun u => (Below w.heap.size w u))
        (first
          | assumption
          | exact bel.drew)
        (first
          | (go_at_call 15; refine Calls.mono (HI.out _ (by first | assumption | exact bel.drew)) ?_; rintro ee w2 ⟨rfl, b2⟩; have b2' : Below w.heap.size w w2 := next_ofZ (by first | assumption | exact bel.drew) b2)
          | fail)
      go_wp2
      go_roundw
      case rel => exact ⟨k + 1, by omega, by go_num, b2'⟩
      case measure => simp [intOf]; omega
    · obtain rfl : k = l.length := by omega
      go_wp2
      go_ret
      exact ⟨rfl, bel⟩
end Go.Proofs.YtoppgalbmijhdaaGreatDoor
