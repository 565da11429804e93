import Derived.Test.YthkbcgedjecnlaaDoorLtK
import Derived.Deep.QuietTactic
import Derived.BigQuiet
namespace Go.Proofs.YthkbcgedjecnlaaDoor
open Go.RowKit Go.Maps
set_option linter.unusedVariables false
set_option linter.unusedSimpArgs false
attribute [local go_sem ↓] Go.wp_at_zero Go.wp_at_succ

theorem list_cell {w : World} {S B n c : Nat} {L : List Sl} (h : w.ownsRow S 22 1 (.slice (some ⟨B, 0, none⟩) n c) n (L.map Sl.v)) {i : Nat} (hi : i < L.length) : w.cell? ⟨B, i, none⟩ = some (.slice (atL L i).a (atL L i).n (atL L i).c) := by
  have := (own_cell h (i := i) (u := (atL L i).v) (by rw [List.getElem?_map, atL_get hi]; rfl)).1
  exact this
theorem row_block {w : World} {S n c k : Nat} {e : TypeId} {a : Option Addr} {xs : List Value} (h : w.ownsRow S e k (.slice a n c) n xs) (h0 : 0 < n) : ∃ g, a = some ⟨g, 0, none⟩ ∧ S ≤ g ∧ g < w.heap.size := by
  rcases h.2 with ⟨_, e⟩ | ⟨g, cap, cur, hv, hb, hg, _⟩
  · omega
  · simp only [Value.slice.injEq] at hv
    exact ⟨g, hv.1, hb, (Array.getElem?_eq_some_iff.1 hg).1⟩
theorem one_cell (w : World) (x : Value) (T : TypeId) : ∀ (j : Nat) (u : Value), ([x] : List Value)[j]? = some u → (w.alloc (.cells #[x] T)).cell? ((⟨w.heap.size, 0, none⟩ : Addr).add j) = some u := by
  intro j u h
  have hj : j < 1 := (List.getElem?_eq_some_iff.1 h).1
  obtain rfl : j = 0 := by omega
  have e : (⟨w.heap.size, 0, none⟩ : Addr).add 0 = ⟨w.heap.size, 0, none⟩ := by rw [WideShapes.add_plain]
  rw [e]
  unfold World.cell?
  simp only [heap_new]
  simpa using h
set_option maxHeartbeats 6400000 in
set_option maxRecDepth 100000 in
theorem apart_any {S B cB : Nat} {L : List Sl} {X0 : Nat → List Tk} {w : World} (hF : F1 S (.slice (some ⟨B, 0, none⟩) L.length cB) L X0 w) (hD : Ds (.slice (some ⟨B, 0, none⟩) L.length cB) L) (hL : L.length ≤ 8) (hN : ∀ j, j < L.length → (atL L j).n ≤ 65537) (hS : S ≤ w.heap.size) :
    Calls Tryd.prog 7 #[.slice (some ⟨B, 0, none⟩) L.length cB] w fun e w' => e = .returned (.bool true) ∧ Below S w w' := by
  have HF : Hid _ := hF
  have HD : Hid _ := hD
  have HN : Hid (∀ j, j < L.length → (atL L j).n ≤ 65537) := hN
  have HS : Hid (S ≤ w.heap.size) := hS
  clear hF hD hN hS
  obtain ⟨i0, hi0, hz0, hz1, hz2⟩ := info_parts infoSl
  go_enter Tryd.func7, Tryd.ntmps7
  go_wp2
  go_loopw [3] (fun iv wr => ∃ (i : Nat) (X : Nat → List Tk), i ≤ L.length ∧ iv = .int .i64 i ∧ Hid (Below S w wr) ∧ Hid (F1 S (.slice (some ⟨B, 0, none⟩) L.length cB) L X wr) ∧ Hid (∀ j, j < i → X j = fil j (atL L j).n)) (fun iv _ => L.length - (intOf iv).toNat)
  case atStart => exact ⟨0, X0, by omega, rfl, Below.refl _ _, HF.out, fun j hj => absurd hj (by omega)⟩
  case round =>
    obtain ⟨i, X, hi, rfl, HB, HF1, HX⟩ := hrel
    by_cases hlt : i < L.length
    · have hlt' : (i : Int) < (L.length : Int) := by omega
      obtain ⟨sl, HSL⟩ : ∃ sl, Hid (atL L i = sl) := ⟨_, rfl⟩
      have hn : sl.n ≤ 65537 := by rw [← HSL.out]; exact HN.out i hlt
      clear HF
      go_wp2_with fail
      go_loopw [4] (fun kv wr => ∃ (k : Nat) (X : Nat → List Tk), k ≤ sl.n ∧ kv = .int .i64 k ∧ Hid (Below S w wr) ∧ Hid (F1 S (.slice (some ⟨B, 0, none⟩) L.length cB) L X wr) ∧ Hid (∀ j, j < i → X j = fil j (atL L j).n) ∧ Hid (∀ q, q < k → (X i)[q]? = some (mk99 i))) (fun kv _ => sl.n - (intOf kv).toNat)
      case atStart => exact ⟨0, X, by omega, rfl, HB, HF1, HX, fun q hq => absurd hq (by omega)⟩
      case round =>
        clear HB HF1 HX
        obtain ⟨k, X, hk, rfl, HB, HF1, HX, HQ⟩ := hrel
        have hci := list_cell HF1.out.list hlt
        rw [HSL.out] at hci
        by_cases hkl : k < sl.n
        · have hkl' : (k : Int) < (sl.n : Int) := by omega
          obtain ⟨hxl, hrow⟩ := HF1.out.rows i hlt
          have hsv : (atL L i).v = .slice sl.a sl.n sl.c := by rw [HSL.out]; rfl
          rw [hsv, HSL.out] at hrow
          rw [HSL.out] at hxl
          obtain ⟨g, hga, hSg, hgl⟩ := row_block hrow (by omega)
          obtain ⟨t, ht⟩ : ∃ t, (X i)[k]? = some t := ⟨_, List.getElem?_eq_getElem (by omega)⟩
          have HNF : Hid (F1 S (.slice (some ⟨B, 0, none⟩) L.length cB) L (upd X i ((X i).set k (mk99 i))) (put4 wr g k (mk99 i))) := HF1.out.put HD.out hlt (by rw [HSL.out]; exact hkl) (by rw [HSL.out]; exact hga) _
          have HNB : Hid (Below S w (put4 wr g k (mk99 i))) := put4_below HB.out hSg
          have HNX : Hid (∀ j, j < i → upd X i ((X i).set k (mk99 i)) j = fil j (atL L j).n) := fun j hj => by unfold upd; rw [if_neg (by omega)]; exact HX.out j hj
          have HNQ : Hid (∀ q, q < k + 1 → (upd X i ((X i).set k (mk99 i)) i)[q]? = some (mk99 i)) := fun q hq => by
            unfold upd
            rw [if_pos rfl, List.getElem?_set]
            by_cases e : k = q
            · rw [if_pos e, if_pos (by omega)]
            · rw [if_neg e]; exact HQ.out q (by omega)
          rw [hga] at hrow hci
          obtain ⟨⟨p0, p1, p2, p3⟩, ⟨f0, f1, f2, f3⟩, hBg⟩ := tok_at hrow ht
          unfold put4 at HNF HNB
          clear hrow hxl hsv ht HF1 HX HQ HB hBg hSg
          generalize (⟨t.s.toArray⟩ : ByteArray) = tb at *
          go_wp2_with fail
          go_roundw
          case rel => exact ⟨k + 1, _, by omega, by go_num, HNB, HNF, HNX, HNQ⟩
          case measure => simp [intOf]; omega
        · obtain rfl : k = sl.n := by omega
          have HX2 : Hid (∀ j, j < i + 1 → X j = fil j (atL L j).n) := fun j hj => by
            by_cases e : j = i
            · subst e
              exact fil_all (HF1.out.rows j hlt).1 (fun q hq => HQ.out q (by rw [HSL.out] at hq; exact hq))
            · exact HX.out j (by omega)
          clear HX HQ
          go_wp2_with fail
          go_roundw
          case rel => exact ⟨i + 1, X, by omega, by go_num, HB, HF1, HX2⟩
          case measure => simp [intOf]; omega
    · obtain rfl : i = L.length := by omega
      have HG0 : Hid (G2 S (.slice (some ⟨B, 0, none⟩) L.length cB) L [] (.slice none 0 0) wr) := HF1.out.full HD.out HX.out
      clear HF HF1 HX
      go_wp2_with fail
      go_loopw [5, 6] (fun gv iv wr => ∃ (i : Nat) (G : List Sl) (ga : Option Addr) (gc : Nat), i ≤ L.length ∧ iv = .int .i64 i ∧ gv = .slice ga i gc ∧ Hid (G.length = i) ∧ Hid (Below S w wr) ∧ Hid (G2 S (.slice (some ⟨B, 0, none⟩) L.length cB) L G (.slice ga i gc) wr)) (fun _ iv _ => L.length - (intOf iv).toNat)
      case atStart => exact ⟨0, [], none, 0, by omega, rfl, rfl, rfl, HB, HG0⟩
      case round =>
        clear HB HG0
        obtain ⟨i, G, ga, gc, hi, rfl, rfl, HGL, HB, HG⟩ := hrel
        by_cases hlt : i < L.length
        · have hlt' : (i : Int) < (L.length : Int) := by omega
          obtain ⟨sl, HSL⟩ : ∃ sl, Hid (atL L i = sl) := ⟨_, rfl⟩
          have hn : sl.n ≤ 65537 := by rw [← HSL.out]; exact HN.out i hlt
          have hci := list_cell HG.out.list hlt
          rw [HSL.out] at hci
          have HST : Hid (Gi S (.slice (some ⟨B, 0, none⟩) L.length cB) L G (.slice ga i gc) i 0 (.slice sl.a (sl.n + 0) sl.c) wr) := by
            have hgl : G.length = i := HGL.out
            subst hgl
            have := Gi.start HG.out HD.out hlt
            rw [show (atL L G.length).v = .slice sl.a (sl.n + 0) sl.c by rw [HSL.out]; rfl] at this
            exact this
          clear HG
          go_wp2_with fail
          clear hci
          go_loopw [7, 8] (fun v kv wr => ∃ (k : Nat) (a : Option Addr) (c : Nat), k ≤ 70 ∧ kv = .int .i64 k ∧ v = .slice a (sl.n + k : Nat) c ∧ Hid (Below S w wr) ∧ Hid (Gi S (.slice (some ⟨B, 0, none⟩) L.length cB) L G (.slice ga i gc) i k (.slice a (sl.n + k) c) wr)) (fun _ kv _ => 70 - (intOf kv).toNat)
          case atStart => exact ⟨0, sl.a, sl.c, by omega, rfl, rfl, HB, HST⟩
          case round =>
            clear HB HST
            obtain ⟨k, a, c, hk, rfl, rfl, HB, HG⟩ := hrel
            by_cases hkl : k < 70
            · have hkl' : (k : Int) < 70 := by omega
              have hown : wr.ownsRow S 37 4 (.slice a (sl.n + k) c) (sl.n + k) ((fil i sl.n ++ gro i k).flatMap Tk.cells) := by
                have := HG.out.own
                rw [HSL.out] at this
                exact this
              have HOW : Hid (wr.ownsRow S 37 4 (.slice a (sl.n + k) c) (sl.n + k) ((fil i sl.n ++ gro i k).flatMap Tk.cells)) := hown
              have hSz : S ≤ wr.heap.size := Nat.le_trans HS.out HB.out.size
              clear hown
              go_wp2_with (at_builtin; refine wpList_app2 rfl (.tmp 49) (.tmp 52) rfl (b := S) (v := .slice a (sl.n + k) c) (n := sl.n + k) (ad := some ⟨wr.heap.size, 0, none⟩) (c := 1) (t := mk98 i) (by simp [Act.eval, Act.put]) (HOW.out.alloc _) (by simp [Act.eval, Act.put]) (TL_lit wr 98 i 0 ⟨#[]⟩) (by omega) (by simp; omega) ?_; intro v2 w2 hown2 hg2 hp2)
              obtain ⟨a2, c2, hv2, _, _⟩ := ownsRow_form hown2
              subst hv2
              have HG2 : Hid (Gi S (.slice (some ⟨B, 0, none⟩) L.length cB) L G (.slice ga i gc) i (k + 1) (.slice a2 (sl.n + (k + 1)) c2) w2) := by
                refine (HG.out.alloc _).step HD.out hlt ?_ hg2 ?_
                · rw [HSL.out]; exact hown2
                · rw [HSL.out]; exact hp2
              have HB2 : Hid (Below S w w2) := ((HB.out.alloc hSz _).grown hg2 (by simp; omega) (fun j hj => (HOW.out.lt j hj).1))
              clear hown2 hg2 hp2 HOW HG HB
              go_roundw
              case rel => exact ⟨k + 1, a2, c2, by omega, by go_num, rfl, HB2, HG2⟩
              case measure => simp [intOf]; omega
            · obtain rfl : k = 70 := by omega
              have hSz : S ≤ wr.heap.size := Nat.le_trans HS.out HB.out.size
              have hgl : G.length = i := HGL.out
              have hlong : wr.ownsRow S 22 1 (.slice ga i gc) i (G.map Sl.v) := by
                have := HG.out.g2.long
                rw [hgl] at this
                exact this
              have HLG : Hid (wr.ownsRow S 22 1 (.slice ga i gc) i (G.map Sl.v)) := hlong
              clear hlong hgl
              go_wp2_with (at_builtin; refine wpList_append_own_at _ rfl _ _ 30 rfl S 22 i0 _ 1 24 Tryd.underlying30 hi0 hz0 hz1 hz2 rfl (by decide) (.slice ga i gc) i (G.map Sl.v) rfl (HLG.out.alloc _) ⟨wr.heap.size, 0, none⟩ 1 1 [.slice a (sl.n + 70) c] rfl rfl (one_cell wr _ _) (by simp [Value.oneCell']) (by unfold maxLen; omega) (by omega) (by simp; omega) ?_; intro v2 w2 hown2 hg2 hnil hloc)
              obtain ⟨a2, c2, hv2, _, _⟩ := ownsRow_form hown2
              subst hv2
              have HG2 : Hid (G2 S (.slice (some ⟨B, 0, none⟩) L.length cB) L (G ++ [⟨a, sl.n + 70, c⟩]) (.slice a2 (i + 1) c2) w2) := by
                have hgl : G.length = i := HGL.out
                subst hgl
                have hsl : atL L G.length = sl := HSL.out
                subst hsl
                exact (HG.out.alloc _).done hlt hown2 hg2 hloc
              have HB2 : Hid (Below S w w2) := ((HB.out.alloc hSz _).grown hg2 (by simp; omega) (fun j hj => (HLG.out.lt j hj).1))
              have HGL2 : Hid ((G ++ [(⟨a, sl.n + 70, c⟩ : Sl)]).length = i + 1) := by show _ = _; rw [List.length_append, HGL.out]; rfl
              clear hown2 hg2 hnil hloc HLG HG HB
              go_roundw
              case rel => exact ⟨i + 1, _, a2, c2, by omega, by go_num, rfl, HGL2, HB2, HG2⟩
              case measure => simp [intOf]; omega
        · obtain rfl : i = L.length := by omega
          obtain ⟨W1, rfl⟩ : ∃ W1, W1 = wr := ⟨_, rfl⟩
          have HWS : Hid (S ≤ W1.heap.size) := Nat.le_trans HS.out HB.out.size
          go_wp2_with fail
          go_loopw [9] (fun iv wq => ∃ i : Nat, i ≤ L.length ∧ iv = .int .i64 i ∧ Hid (Below W1.heap.size W1 wq)) (fun iv _ => L.length - (intOf iv).toNat)
          case atStart => exact ⟨0, by omega, rfl, Below.refl _ _⟩
          case round =>
            obtain ⟨i, hi, rfl, HQ⟩ := hrel
            by_cases hlt : i < L.length
            · have hlt' : (i : Int) < (L.length : Int) := by omega
              have hgi : i < G.length := by rw [HGL.out]; exact hlt
              obtain ⟨sl, HSL⟩ : ∃ sl, Hid (atL L i = sl) := ⟨_, rfl⟩
              obtain ⟨gl, HGS⟩ : ∃ gl, Hid (atL G i = gl) := ⟨_, rfl⟩
              have hn : sl.n ≤ 65537 := by rw [← HSL.out]; exact HN.out i hlt
              obtain ⟨hgn0, hgo⟩ := HG.out.grown i hgi
              rw [HGS.out, HSL.out] at hgn0 hgo
              have hlo := HG.out.long
              rw [HGL.out] at hlo
              obtain ⟨r, hr, _, _⟩ := row_block hlo (by omega : 0 < L.length)
              subst hr
              have HLO : Hid (W1.ownsRow S 22 1 (.slice (some ⟨r, 0, none⟩) L.length gc) L.length (G.map Sl.v)) := hlo
              have hgv : gl.v = .slice gl.a (sl.n + 70) gl.c := by unfold Sl.v; rw [hgn0]
              rw [hgv] at hgo
              obtain ⟨g2, hg2, _, _⟩ := row_block hgo (by omega)
              rw [hg2] at hgo
              have HGO : Hid (W1.ownsRow S 37 4 (.slice (some ⟨g2, 0, none⟩) (sl.n + 70) gl.c) (sl.n + 70) ((fil i sl.n ++ gro i 70).flatMap Tk.cells)) := hgo
              have HRO : Hid (W1.ownsRow S 37 4 (.slice sl.a sl.n sl.c) sl.n ((fil i sl.n).flatMap Tk.cells)) := by
                have := HG.out.rows i hlt
                rw [HSL.out] at this
                exact this
              have HGV : Hid (Value.slice (atL G i).a (atL G i).n (atL G i).c = .slice (some ⟨g2, 0, none⟩) (sl.n + 70) gl.c) := by show _ = _; rw [HGS.out, hgn0, hg2]
              have HLI : Hid (W1.ownsRow S 22 1 (.slice (some ⟨B, 0, none⟩) L.length cB) L.length (L.map Sl.v)) := HG.out.list
              clear hgo hlo hgv hgn0 hg2
              go_wp2_with fail
              go_loopw [10] (fun kv wq => ∃ k : Nat, k ≤ sl.n + 70 ∧ kv = .int .i64 k ∧ Hid (Below W1.heap.size W1 wq)) (fun kv _ => sl.n + 70 - (intOf kv).toNat)
              case atStart => exact ⟨0, by omega, rfl, HQ⟩
              case round =>
                clear HQ
                obtain ⟨k, hk, rfl, HQ⟩ := hrel
                have hci := list_cell (own_below HLI.out HQ.out) hlt
                rw [HSL.out] at hci
                have hcg := list_cell (own_below HLO.out HQ.out) hgi
                rw [HGV.out] at hcg
                by_cases hkl : k < sl.n + 70
                · have hkl' : (k : Int) < ((sl.n + 70 : Nat) : Int) := by omega
                  have hkl2 : (k : Int) < (sl.n : Int) + 70 := by omega
                  have hgt := own_below HGO.out HQ.out
                  have hq := HQ.out
                  have HQ2 : Hid (∀ nq, Below W1.heap.size W1 (wr.drewN nq)) := fun nq => ⟨hq.os, hq.tape, hq.output, hq.size, hq.block⟩
                  clear hq
                  by_cases hkn : k < sl.n
                  · have hkn' : (k : Int) < (sl.n : Int) := by omega
                    have ht : (fil i sl.n ++ gro i 70)[k]? = some (mk99 i) := by
                      rw [List.getElem?_append_left (by simp [fil]; omega)]
                      simp [fil, hkn]
                    have ht2 : (fil i sl.n)[k]? = some (mk99 i) := by simp [fil, hkn]
                    obtain ⟨⟨p0, p1, p2, p3⟩, _, _⟩ := tok_at hgt ht
                    have hro := own_below HRO.out HQ.out
                    obtain ⟨g1, hg1, _, _⟩ := row_block hro (by omega)
                    rw [hg1] at hro hci
                    obtain ⟨⟨q0, q1, q2, q3⟩, _, _⟩ := tok_at hro ht2
                    have hne : ∀ W, (binOp .neq 37 (.agg #[.int .i8 99, .string ⟨#[]⟩, .int .i64 i, .int .i64 0]) (.agg #[.int .i8 99, .string ⟨#[]⟩, .int .i64 i, .int .i64 0])).run Tryd.prog W = .ok (.bool false) W := fun W => by
                      have := tok_neq (mk99 i) (mk99 i) W
                      simpa [mk99] using this
                    simp only [mk99] at p0 p1 p2 p3 q0 q1 q2 q3
                    clear ht ht2 hgt hro hg1 HQ HG HB HD HN
                    go_wp2_with fail
                    go_quiet (fail)
                    go_wp2
                    go_roundw
                    case rel => exact ⟨k + 1, by omega, by go_num, HQ2.out _⟩
                    case measure => simp [intOf]; omega
                  · have hkn' : ¬ (k : Int) < (sl.n : Int) := by omega
                    have ht : (fil i sl.n ++ gro i 70)[k]? = some (mk98 i) := by
                      have hfl : (fil i sl.n).length = sl.n := by simp [fil]
                      rw [List.getElem?_append_right (by omega), hfl]
                      unfold gro
                      rw [List.getElem?_replicate, if_pos (by omega)]
                    obtain ⟨⟨p0, p1, p2, p3⟩, _, _⟩ := tok_at hgt ht
                    simp only [mk98] at p0 p1 p2 p3
                    clear ht hgt HQ HG HB HD HN
                    go_wp2_with fail
                    go_quiet (fail)
                    go_wp2
                    go_roundw
                    case rel => exact ⟨k + 1, by omega, by go_num, HQ2.out _⟩
                    case measure => simp [intOf]; omega
                · have hkl' : ¬ (k : Int) < ((sl.n + 70 : Nat) : Int) := by omega
                  have hkl2 : ¬ (k : Int) < (sl.n : Int) + 70 := by omega
                  go_wp2_with fail
                  go_roundw
                  case rel => exact ⟨i + 1, by omega, by go_num, HQ⟩
                  case measure => simp [intOf]; omega
            · obtain rfl : i = L.length := by omega
              go_wp2_with fail
              go_ret
              exact ⟨rfl, HB.out.trans (HQ.out.mono HWS.out)⟩
end Go.Proofs.YthkbcgedjecnlaaDoor
