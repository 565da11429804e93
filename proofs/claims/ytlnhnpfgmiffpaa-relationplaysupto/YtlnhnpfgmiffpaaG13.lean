import Derived.Test.YtlnhnpfgmiffpaaG7
import Derived.Test.YtlnhnpfgmiffpaaG9
import Derived.Shelf.SlSortCmp.WholeK
import Derived.Test.YtlnhnpfgmiffpaaG6
import Derived.Test.YtlnhnpfgmiffpaaG8
section
namespace Go.Proofs.Ytlnhnpfgmiffpaa
open Go.RowKit Go.Maps
set_option linter.unusedVariables false
set_option linter.unusedSimpArgs false
attribute [local go_sem ↓] Go.wp_at_zero Go.wp_at_succ

/-! the order of rows -/
def cmpI (a b : Int) : Int := if a < b then -1 else if b < a then 1 else 0
def lexI : List Int → List Int → Int
  | a :: x, b :: y => if a < b then -1 else if b < a then 1 else lexI x y
  | [], [] => 0
  | [], _ :: _ => -1
  | _ :: _, [] => 1
theorem lexI_step {x y : List Int} {q : Nat} (hx : q < x.length) (hy : q < y.length) : lexI (x.drop q) (y.drop q) = if x.getD q 0 < y.getD q 0 then -1 else if y.getD q 0 < x.getD q 0 then 1 else lexI (x.drop (q + 1)) (y.drop (q + 1)) := by
  have ex : x.drop q = x.getD q 0 :: x.drop (q + 1) := by
    rw [List.drop_eq_getElem_cons hx]
    simp [List.getD, List.getElem?_eq_getElem hx]
  have ey : y.drop q = y.getD q 0 :: y.drop (q + 1) := by
    rw [List.drop_eq_getElem_cons hy]
    simp [List.getD, List.getElem?_eq_getElem hy]
  rw [ex, ey, lexI]
theorem lexI_self : ∀ x : List Int, lexI x x = 0
  | [] => rfl
  | a :: x => by simp [lexI, lexI_self x]
theorem lexI_swap : ∀ x y : List Int, lexI y x = - lexI x y
  | [], [] => rfl
  | [], _ :: _ => rfl
  | _ :: _, [] => rfl
  | a :: x, b :: y => by
    simp only [lexI]
    have := lexI_swap x y
    split <;> split <;> first | omega | (split <;> omega) | skip
theorem lexI_zero : ∀ {x y : List Int}, lexI x y = 0 → x = y
  | [], [], _ => rfl
  | [], _ :: _, h => by simp [lexI] at h
  | _ :: _, [], h => by simp [lexI] at h
  | a :: x, b :: y, h => by
    simp only [lexI] at h
    split at h
    · omega
    · split at h
      · omega
      · have e : a = b := by omega
        rw [e, lexI_zero h]
theorem lexI_trans : ∀ {x y z : List Int}, lexI x y < 0 → lexI y z < 0 → lexI x z < 0
  | [], [], _, h, _ => by simp [lexI] at h
  | [], _ :: _, [], _, h => by simp [lexI] at h
  | [], _ :: _, _ :: _, _, _ => by simp [lexI]
  | _ :: _, [], _, h, _ => by simp [lexI] at h
  | _ :: _, _ :: _, [], _, h => by simp [lexI] at h
  | a :: x, b :: y, c :: z, h1, h2 => by
    simp only [lexI] at h1 h2 ⊢
    have ih := @lexI_trans x y z
    by_cases p : a < b
    · by_cases q : b < c
      · rw [if_pos (by omega)]; omega
      · rw [if_neg q] at h2
        by_cases r : c < b
        · rw [if_pos r] at h2; omega
        · rw [if_pos (by omega)]; omega
    · rw [if_neg p] at h1
      by_cases p2 : b < a
      · rw [if_pos p2] at h1; omega
      · rw [if_neg p2] at h1
        have e : a = b := by omega
        subst e
        by_cases q : a < c
        · rw [if_pos q]; omega
        · rw [if_neg q] at h2 ⊢
          by_cases r : c < a
          · rw [if_pos r] at h2; omega
          · rw [if_neg r] at h2 ⊢
            exact ih h1 h2
theorem run_loadSymC {w : World} {a : Addr} {n : Int} (h : w.cell? a = some (.int .i32 n)) : (loadVar 38 a).run Try.prog w = .ok (.int .i32 n) w := by
  simp [loadVar, go_sem, h]
theorem RowAt.cellC {w : World} {b : Nat} {r : List Int} (h : RowAt w b r) (hl : r.length = 24) {k : Nat} (hk : k < 24) : w.cell? ⟨b, k, none⟩ = some (.int .i32 (r.getD k 0)) := by
  have h1 : w.heap[b]? = some (.cells (rowC r) 40 (0, 0)) := h
  have h2 : k < r.length := by omega
  simp [World.cell?, h1, rowC, cellI, List.getD, List.getElem?_eq_getElem h2]
set_option maxHeartbeats 800000 in
theorem isNaN_any (a : Int) (w : World) : Calls Try.prog 76 #[.int .i32 a] w fun e w' => e = .returned (.bool false) ∧ w' = w := by
  go_enter Try.func76, Try.ntmps76
  go_wp2
  go_ret
  simp
set_option maxHeartbeats 1600000 in
set_option maxRecDepth 100000 in
theorem cmpSym_any (a b : Int) (w : World) : Calls Try.prog 70 #[.int .i32 a, .int .i32 b] w fun e w' => e = .returned (.int .i64 (cmpI a b)) ∧ w' = w := by
  have HA := Lib.hid (isNaN_any a w)
  have HB := Lib.hid (isNaN_any b w)
  by_cases h1 : a < b
  · have hc : Hid (cmpI a b = -1) := by show _ = _; simp [cmpI, h1]
    go_enter Try.func70, Try.ntmps70
    go_wp2_with fail
    refine HA.out.mono ?_
    rintro e w1 ⟨rfl, rfl⟩
    go_wp2_with fail
    refine HB.out.mono ?_
    rintro e w1 ⟨rfl, rfl⟩
    go_wp2
    go_ret
    exact ⟨by rw [hc.out]; rfl, rfl⟩
  · by_cases h2 : b < a
    · have hc : Hid (cmpI a b = 1) := by show _ = _; simp [cmpI, h1, h2]
      go_enter Try.func70, Try.ntmps70
      go_wp2_with fail
      refine HA.out.mono ?_
      rintro e w1 ⟨rfl, rfl⟩
      go_wp2_with fail
      refine HB.out.mono ?_
      rintro e w1 ⟨rfl, rfl⟩
      go_wp2
      go_ret
      exact ⟨by rw [hc.out]; rfl, rfl⟩
    · have hc : Hid (cmpI a b = 0) := by show _ = _; simp [cmpI, h1, h2]
      go_enter Try.func70, Try.ntmps70
      go_wp2_with fail
      refine HA.out.mono ?_
      rintro e w1 ⟨rfl, rfl⟩
      go_wp2_with fail
      refine HB.out.mono ?_
      rintro e w1 ⟨rfl, rfl⟩
      go_wp2
      go_ret
      exact ⟨by rw [hc.out]; rfl, rfl⟩
attribute [-go_sem] loadVar
set_option maxHeartbeats 3200000 in
set_option maxRecDepth 100000 in
theorem compareL_any {w : World} {b1 b2 : Nat} {x y : List Int} (h1 : RowAt w b1 x) (h2 : RowAt w b2 y) (lx : x.length = 24) (ly : y.length = 24) :
    Calls Try.prog 58 #[.slice (some ⟨b1, 0, none⟩) 24 24, .slice (some ⟨b2, 0, none⟩) 24 24] w fun e w' => e = .returned (.int .i64 (lexI x y)) ∧ w' = w := by
  have HR := Lib.hid (And.intro h1 h2)
  have HC := Lib.hid (fun a b : Int => cmpSym_any a b w)
  clear h1 h2
  go_enter Try.func58, Try.ntmps58
  go_wp2
  go_loopw [11] (fun i wr => ∃ q : Nat, q ≤ 24 ∧ i = .int .i64 q ∧ wr = w ∧ Hid (lexI x y = lexI (x.drop q) (y.drop q))) (fun i _ => 24 - (intOf i).toNat)
  case atStart => exact ⟨0, by omega, rfl, rfl, rfl⟩
  case round =>
    obtain ⟨q, hq, rfl, hwr, HL⟩ := hrel
    subst hwr
    by_cases hqt : q < 24
    · have hqt' : (q : Int) < 24 := by omega
      have hq0 : (0 : Int) ≤ (q : Int) := by omega
      have l1 := run_loadSymC (HR.out.1.cellC lx hqt)
      have l2 := run_loadSymC (HR.out.2.cellC ly hqt)
      have HS := Lib.hid (lexI_step (x := x) (y := y) (q := q) (by omega) (by omega))
      generalize x.getD q 0 = a at l1 HS
      generalize y.getD q 0 = b at l2 HS
      go_wp2_with fail
      refine (HC.out a b).mono ?_
      rintro e w1 ⟨rfl, rfl⟩
      by_cases p : a < b
      · have hc : cmpI a b = -1 := by simp [cmpI, p]
        have HE : Hid (lexI x y = -1) := by show _ = _; rw [HL.out, HS.out, if_pos p]
        rw [hc]
        clear hc p
        go_wp2
        go_ret
        exact ⟨by rw [HE.out]; rfl, rfl⟩
      · by_cases p2 : b < a
        · have hc : cmpI a b = 1 := by simp [cmpI, p, p2]
          have HE : Hid (lexI x y = 1) := by show _ = _; rw [HL.out, HS.out, if_neg p, if_pos p2]
          rw [hc]
          clear hc p p2
          go_wp2
          go_ret
          exact ⟨by rw [HE.out]; rfl, rfl⟩
        · have hc : cmpI a b = 0 := by simp [cmpI, p, p2]
          have HE : Hid (lexI x y = lexI (x.drop (q + 1)) (y.drop (q + 1))) := by show _ = _; rw [HL.out, HS.out, if_neg p, if_neg p2]
          rw [hc]
          clear hc p p2
          go_wp2
          go_roundw
          case rel => exact ⟨q + 1, by omega, by go_num, by simp, HE⟩
          case measure => simp [intOf]; omega
    · obtain rfl : q = 24 := by omega
      have HE : Hid (lexI x y = 0) := by
        show _ = _
        rw [HL.out, List.drop_eq_nil_of_le (by omega), List.drop_eq_nil_of_le (by omega)]
        rfl
      go_wp2
      go_ret
      exact ⟨by rw [HE.out]; rfl, rfl⟩
set_option maxHeartbeats 1600000 in
set_option maxRecDepth 100000 in
theorem compare_any (x y : List Int) (lx : x.length = 24) (ly : y.length = 24) (w : World) : Calls Try.prog 53 #[rowV x, rowV y] w fun e w' => e = .returned (.int .i64 (lexI x y)) ∧ ∃ q os', w' = Go.Sort.grow (w.drewN q) os' := by
  have r1 := RowAt.below (rowAt_new w x) (belowA (.cells (rowC y) 40))
  have r2 := rowAt_new (w.alloc (.cells (rowC x) 40)) y
  have hD : Below ((w.alloc (.cells (rowC x) 40)).alloc (.cells (rowC y) 40)).heap.size ((w.alloc (.cells (rowC x) 40)).alloc (.cells (rowC y) 40)) ((w.alloc (.cells (rowC x) 40)).alloc (.cells (rowC y) 40)).drew := (Below.refl _ _).drew
  have HC := Lib.hid (compareL_any (r1.below hD) (r2.below hD) lx ly)
  have HW : Hid (∃ q os', ((w.alloc (.cells (rowC x) 40)).alloc (.cells (rowC y) 40)).drew = Go.Sort.grow (w.drewN q) os') := by
    refine ⟨1, #[.cells (rowC x) 40, .cells (rowC y) 40], ?_⟩
    rw [Go.Sort.alloc_eq_grow, Go.Sort.alloc_eq_grow, Go.Sort.grow_grow]
    rfl
  simp only [World.size_alloc] at HC
  clear r1 r2 hD
  unfold rowV
  go_enter Try.func53, Try.ntmps53
  go_upto_region 1 with fail
  generalize (w.alloc (.cells (rowC x) 40)).alloc (.cells (rowC y) 40) = W at HC HW ⊢
  go_region_law (
    refine step_call rfl 58 Try.func58 (by kernel_rfl) (by kernel_rfl) #[.tmp 5, .tmp 6] _ rfl #[.slice (some ⟨w.heap.size, 0, none⟩) 24 24, .slice (some ⟨w.heap.size + 1, 0, none⟩) 24 24] (by simp [Act.eval, Act.put]) HC.out ?_
    rintro ee w2 ⟨rfl, rfl⟩
    refine ⟨_, rfl, ?_⟩)
  all_goals
    go_wp2
    go_ret
    exact ⟨rfl, HW.out⟩
end Go.Proofs.Ytlnhnpfgmiffpaa
end
section
namespace Go.Proofs.Ytlnhnpfgmiffpaa
open Go.RowKit Go.Maps
set_option linter.unusedVariables false
set_option linter.unusedSimpArgs false
attribute [local go_sem ↓] Go.wp_at_zero Go.wp_at_succ

set_option maxHeartbeats 1600000 in
set_option maxRecDepth 100000 in
theorem rbelow_any (x y : List Int) (hx : RowOk x) (hy : RowOk y) (w : World) : Calls Try.prog 54 #[rowV x, rowV y] w fun e w' => e = .returned (.bool (decide (lexI x y < 0))) ∧ Below w.heap.size w w' := by
  have HB := Lib.hid (((Below.refl w.heap.size w).alloc (Nat.le_refl _) (.cells (rowC x) 40)).alloc (by simp) (.cells (rowC y) 40))
  have HX : Hid (RowAt ((w.alloc (.cells (rowC x) 40)).alloc (.cells (rowC y) 40)) w.heap.size x) := (rowAt_new w x).below (belowA _)
  have HY : Hid (RowAt ((w.alloc (.cells (rowC x) 40)).alloc (.cells (rowC y) 40)) (w.heap.size + 1) y) := by
    have := rowAt_new (w.alloc (.cells (rowC x) 40)) y
    simp only [World.size_alloc] at this
    exact this
  have hlx := hx.len
  have hly := hy.len
  clear hx hy
  unfold rowV
  go_enter Try.func54, Try.ntmps54
  go_upto_region 1 with fail
  generalize (w.alloc (.cells (rowC x) 40)).alloc (.cells (rowC y) 40) = W at HB HX HY ⊢
  go_wp2
  go_loopw [5] (fun i wr => ∃ k : Nat, k ≤ 24 ∧ i = .int .i64 k ∧ Hid (Below W.heap.size W wr) ∧ Hid (lexI x y = lexI (x.drop k) (y.drop k))) (fun i _ => 24 - (intOf i).toNat)
  case atStart => exact ⟨0, by omega, rfl, Below.refl _ _, rfl⟩
  case round =>
    obtain ⟨k, hk, rfl, HBW, HL⟩ := hrel
    by_cases hlt : k < 24
    · have hlt' : (k : Int) < 24 := by omega
      have hk0 : (0 : Int) ≤ (k : Int) := by omega
      have g1 := RowAt.cellF (HX.out.below HBW.out) hlx hlt
      have g2 := RowAt.cellF (HY.out.below HBW.out) hly hlt
      have HS := Lib.hid (HL.out.trans (lexI_step (x := x) (y := y) (q := k) (by omega) (by omega)))
      generalize x.getD k 0 = p at g1 HS
      generalize y.getD k 0 = q at g2 HS
      clear HL
      by_cases he : p = q
      · subst he
        have hb : (p != p) = false := by simp
        have HN : Hid (lexI x y = lexI (x.drop (k + 1)) (y.drop (k + 1))) := by
          have := HS.out
          rw [if_neg (by omega), if_neg (by omega)] at this
          exact this
        clear HS
        go_wp2_with fail
        go_quiet (fail)
        go_wp2
        go_roundw
        case rel => exact ⟨k + 1, by omega, by go_num, below_drewV HBW.out _, HN⟩
        case measure => simp [intOf]; omega
      · have hb : (p != q) = true := by simpa using he
        have HN : Hid (decide (lexI x y < 0) = decide (p < q)) := by
          show _ = _
          rw [HS.out]
          by_cases h1 : p < q
          · rw [if_pos h1]; simp [h1]
          · rw [if_neg h1, if_pos (by omega)]; simp [h1]
        clear HS he
        go_wp2_with fail
        go_quiet (fail)
        go_wp2_with fail
        go_quiet (fail)
        go_wp2
        go_ret
        exact ⟨by rw [HN.out]; rfl, HB.out.trans ((below_drewV (below_drewV HBW.out _) _).mono HB.out.size)⟩
    · obtain rfl : k = 24 := by omega
      have HN : Hid (decide (lexI x y < 0) = false) := by
        show _ = _
        rw [HL.out, List.drop_of_length_le (by omega), List.drop_of_length_le (by omega)]
        rfl
      go_wp2
      go_ret
      exact ⟨by rw [HN.out]; rfl, HB.out.trans (HBW.out.mono HB.out.size)⟩
attribute [-go_sem] loadVar Builtin.append_
set_option maxHeartbeats 1600000 in
set_option maxRecDepth 100000 in
theorem rclone_any {w : World} {B p : Nat} {sv : Value} {rows : List (List Int)} {ar tk : Int} (h : Rf w B p sv rows ar tk) (hlen : rows.length ≤ 1000000000) : Calls Try.prog 7 #[.pointer (some ⟨p, 0, none⟩)] w fun e w' => ∃ q sv', e = .returned (.pointer (some ⟨q, 0, none⟩)) ∧ Rf w' w.heap.size q sv' rows ar 0 ∧ Below w.heap.size w w' := by
  obtain ⟨a, c, rfl, _⟩ := own_form h.own
  have hd : Below w.heap.size w w.drew := (Below.refl _ _).drew
  have HT := Lib.hid (rthere_yes h)
  have l1 := run_loadInt ((h.keep hd).rl.at (j := 1) rfl)
  have l2 := run_loadRows ((h.keep hd).rl.at (j := 2) rfl)
  have HOK := Lib.hid h.ok
  obtain ⟨o', w3, ra, hown, hbel, hsz, _, _⟩ := app_rowsL (w0 := w) (w := w.drew) (B := w.heap.size) (rows1 := []) (n := 0) rfl (World.ownsRow_nil _ _ _ _) hd (Nat.le_refl _) (own_LrC (h.keep hd).own (fun r hr => (h.ok r hr).len)).1 (by simpa using hlen) 49
  rw [Nat.zero_add] at hown
  obtain ⟨a2, c2, rfl, _⟩ := own_form hown
  have l3 := run_loadInt ((h.keep hbel).rl.at (j := 1) rfl)
  have HO := Lib.hid hown
  have HBL := Lib.hid hbel
  have HSZ := Lib.hid hsz
  clear h hd hown hbel hsz
  go_enter Try.func7, Try.ntmps7
  go_wp2_with fail
  refine HT.out.mono ?_
  rintro e w1 ⟨rfl, rfl⟩
  clear HT
  go_upto_region 3 with fail
  go_region
  all_goals
    go_wp2
    go_ret
    refine ⟨_, _, rfl, ⟨rl_new w3 #[.bool true, .int .i64 ar, .slice a2 rows.length c2, .int .i64 0] 57, ?_, HOK.out, HSZ.out, fun g hg => ?_⟩, HBL.out.trans ((belowA _).mono HSZ.out)⟩
    · have := own_below HO.out (belowA (w := w3) (.cells #[.bool true, .int .i64 ar, .slice a2 rows.length c2, .int .i64 0] 57))
      simpa using this
    · have := (HO.out.lt g hg).2
      omega
end Go.Proofs.Ytlnhnpfgmiffpaa
end
section
namespace Go.Proofs.Ytlnhnpfgmiffpaa
open Go.RowKit Go.Maps
set_option linter.unusedVariables false
set_option linter.unusedSimpArgs false
attribute [local go_sem ↓] Go.wp_at_zero Go.wp_at_succ

/-- how many rows lie below a row -/
def cntB (rows : List (List Int)) (x : List Int) : Nat := rows.countP (fun y => decide (lexI y x < 0))
theorem cnt_at : ∀ (S : List (List Int)), S.Pairwise (fun x y => lexI x y < 0) → ∀ j (hj : j < S.length), cntB S S[j] = j
  | [], _, j, hj => absurd hj (by simp)
  | s :: S, hp, j, hj => by
    obtain ⟨h1, h2⟩ := List.pairwise_cons.1 hp
    cases j with
    | zero =>
      show cntB (s :: S) s = 0
      unfold cntB
      rw [List.countP_eq_zero]
      intro y hy
      rcases List.mem_cons.1 hy with e | hy
      · rw [e, lexI_self]; simp
      · have := h1 y hy
        have := lexI_swap s y
        simp
        omega
    | succ j =>
      have hj' : j < S.length := by simpa using hj
      have ih := cnt_at S h2 j hj'
      show cntB (s :: S) S[j] = j + 1
      unfold cntB at ih ⊢
      rw [List.countP_cons, ih, if_pos (by simpa using h1 _ (List.getElem_mem hj'))]
theorem cnt_perm {S rows : List (List Int)} (hp : S.Perm rows) (x : List Int) : cntB rows x = cntB S x := (hp.countP_eq _).symm
theorem cnt_step {rows : List (List Int)} {x : List Int} {k : Nat} (hk : k < rows.length) : cntB (rows.take (k + 1)) x = cntB (rows.take k) x + (if lexI rows[k] x < 0 then 1 else 0) := by
  unfold cntB
  rw [List.take_add_one, List.getElem?_eq_getElem hk, List.countP_append]
  simp [List.countP_cons]
theorem cnt_le (rows : List (List Int)) (x : List Int) : cntB rows x ≤ rows.length := List.countP_le_length
/-- a list of elements of 24 cells, one of them written anew -/
theorem own_put {base : Nat} {e : TypeId} {g n cap : Nat} {w : World} {L : List (List Value)} (hl : ∀ x ∈ L, x.length = 24) (own : w.ownsRow base e 24 (.slice (some ⟨g, 0, none⟩) n cap) n L.flatten) {j : Nat} (hj : j < L.length) {vs : List Value} (hv : vs.length = 24) :
    (w.setCells g (j * 24) vs).ownsRow base e 24 (.slice (some ⟨g, 0, none⟩) n cap) n (L.set j vs).flatten := by
  have lenF : ∀ l : List (List Value), (∀ x ∈ l, x.length = 24) → l.flatten.length = l.length * 24 := by
    intro l
    induction l with
    | nil => intro _; rfl
    | cons a l ih =>
      intro h
      rw [List.flatten_cons, List.length_append, h a (by simp), ih (fun x hx => h x (by simp [hx])), List.length_cons]
      omega
  have e1 : L = L.take j ++ L[j] :: L.drop (j + 1) := by simp
  have e2 : L.flatten = (L.take j).flatten ++ (L[j] ++ (L.drop (j + 1)).flatten) := by
    have := congrArg List.flatten e1
    rw [List.flatten_append, List.flatten_cons] at this
    exact this
  have hA : (L.take j).flatten.length = j * 24 := by
    rw [lenF _ (fun x hx => hl x (List.mem_of_mem_take hx))]
    congr 1
    simp; omega
  have hx : L[j].length = 24 := hl _ (List.getElem_mem hj)
  rw [e2] at own
  have h := BK.own_setCells vs _ _ own (by rw [List.length_append, hx, hv]; omega)
  rw [hA] at h
  have e3 : (L.set j vs).flatten = (L.take j).flatten ++ vs ++ (L[j] ++ (L.drop (j + 1)).flatten).drop vs.length := by
    rw [List.set_eq_take_append_cons_drop, if_pos hj, List.flatten_append, List.flatten_cons, List.append_assoc]
    congr 2
    rw [hv, ← hx, List.drop_left]
  rw [e3]
  exact h
theorem chunks : ∀ (n : Nat) (xs : List Value), xs.length = n * 24 → ∃ L : List (List Value), L.length = n ∧ (∀ x ∈ L, x.length = 24) ∧ L.flatten = xs
  | 0, xs, h => ⟨[], rfl, fun x hx => by simp at hx, (List.eq_nil_of_length_eq_zero (by simpa using h)).symm⟩
  | n + 1, xs, h => by
    obtain ⟨L, h1, h2, h3⟩ := chunks n (xs.drop 24) (by rw [List.length_drop, h]; omega)
    refine ⟨xs.take 24 :: L, by simp [h1], fun x hx => ?_, by rw [List.flatten_cons, h3, List.take_append_drop]⟩
    rcases List.mem_cons.1 hx with e | hx
    · rw [e, List.length_take, h]; omega
    · exact h2 x hx
theorem sort_done {rows S : List (List Int)} (hp : S.Perm rows) (hs : S.Pairwise (fun x y => lexI x y < 0)) {L : List (List Value)} (hl : L.length = rows.length) (h : ∀ j, j < rows.length → ∀ x, rows[j]? = some x → L[cntB rows x]? = some (x.map cellI)) : L.flatten = flatR S := by
  have hls : S.length = rows.length := hp.length_eq
  have e : L = S.map (fun r => r.map cellI) := by
    apply List.ext_getElem?
    intro j
    by_cases hj : j < S.length
    · have hm : S[j] ∈ rows := hp.mem_iff.1 (List.getElem_mem hj)
      obtain ⟨i, hi, he⟩ := List.getElem_of_mem hm
      have := h i hi S[j] (by rw [List.getElem?_eq_getElem hi, he])
      rw [cnt_perm hp, cnt_at S hs j hj] at this
      rw [this, List.getElem?_map, List.getElem?_eq_getElem hj]
      rfl
    · rw [List.getElem?_eq_none (by omega), List.getElem?_eq_none (by simp; omega)]
  rw [e, flatR, List.flatMap_def]
theorem cnt_lt {rows S : List (List Int)} (hp : S.Perm rows) (hs : S.Pairwise (fun x y => lexI x y < 0)) {x : List Int} (hx : x ∈ rows) : cntB rows x < rows.length := by
  obtain ⟨j, hj, he⟩ := List.getElem_of_mem (hp.mem_iff.2 hx)
  rw [cnt_perm hp, ← he, cnt_at S hs j hj, ← hp.length_eq]
  exact hj
theorem cnt_one {rows S : List (List Int)} (hp : S.Perm rows) (hs : S.Pairwise (fun x y => lexI x y < 0)) {x y : List Int} (hx : x ∈ rows) (hy : y ∈ rows) (h : cntB rows x = cntB rows y) : x = y := by
  obtain ⟨j, hj, he⟩ := List.getElem_of_mem (hp.mem_iff.2 hx)
  obtain ⟨i, hi, hf⟩ := List.getElem_of_mem (hp.mem_iff.2 hy)
  rw [cnt_perm hp, cnt_perm hp, ← he, ← hf, cnt_at S hs j hj, cnt_at S hs i hi] at h
  subst h
  rw [← he, ← hf]
attribute [-go_sem] loadVar
set_option maxHeartbeats 3200000 in
set_option maxRecDepth 100000 in
theorem rsorted_any {w : World} {B p : Nat} {sv : Value} {rows S : List (List Int)} {ar tk : Int} (h : Rf w B p sv rows ar tk) (hlen : rows.length ≤ 100000000) (hp : S.Perm rows) (hs : S.Pairwise (fun x y => lexI x y < 0)) : Calls Try.prog 35 #[.pointer (some ⟨p, 0, none⟩)] w fun e w' => ∃ a c, e = .returned (.slice a rows.length c) ∧ w'.ownsRow w.heap.size 40 24 (.slice a rows.length c) rows.length (flatR S) ∧ Below w.heap.size w w' := by
  obtain ⟨i0, hi0, hz0, hz1, hz2⟩ := info_parts infoRowB
  obtain ⟨ao, co, rfl, _⟩ := own_form h.own
  have HT := Lib.hid (rlen_yes h)
  obtain ⟨w1, hmk, own1, gr1⟩ := run_make_full (P := Try.prog) w w.heap.size 49 40 i0 _ 24 Try.underlying49 hi0 hz0 hz1 .i64 .i64 rows.length (by rw [hz2]; omega) (by unfold maxLen; omega) (Nat.le_refl _)
  have HB1 : Hid (Below w.heap.size w w1) := ⟨gr1.os, gr1.tape, gr1.output, gr1.size, fun k hk => gr1.block k hk (by simp)⟩
  obtain ⟨L0, hL0, hL1, hL2⟩ := chunks rows.length _ own1.1
  rw [← hL2] at own1
  have HO1 := Lib.hid (And.intro hL0 (And.intro hL1 own1))
  have HR := Lib.hid h
  have HPS := Lib.hid (And.intro hp hs)
  clear h hp hs own1 gr1 hL0 hL1 hL2 hz0 hz1 hz2 hi0
  go_enter Try.func35, Try.ntmps35
  go_wp2_with fail
  refine HT.out.mono ?_
  rintro e w2 ⟨rfl, rfl⟩
  clear HT
  go_wp2
  clear hmk
  go_loopw [4] (fun iv wr => ∃ (k : Nat) (L : List (List Value)), k ≤ rows.length ∧ iv = .int .i64 k ∧ Hid (Below w2.heap.size w2 wr ∧ L.length = rows.length ∧ (∀ x ∈ L, x.length = 24) ∧ wr.ownsRow w2.heap.size 40 24 (.slice (some ⟨w2.heap.size, 0, none⟩) rows.length rows.length) rows.length L.flatten ∧ ∀ j, j < k → ∀ x, rows[j]? = some x → L[cntB rows x]? = some (x.map cellI))) (fun iv _ => rows.length - (intOf iv).toNat)
  case atStart => exact ⟨0, L0, Nat.zero_le _, rfl, HB1.out, HO1.out.1, HO1.out.2.1, HO1.out.2.2, fun j hj => by omega⟩
  case round =>
    obtain ⟨k, L, hk, rfl, HI⟩ := hrel
    have HT := Lib.hid (rlen_yes (HR.out.keep HI.out.1))
    by_cases hlt : k < rows.length
    · have hlt' : (k : Int) < (rows.length : Int) := by omega
      have hk0 : (0 : Int) ≤ (k : Int) := by omega
      obtain ⟨g, rfl⟩ := own_some HR.out.own (by omega)
      have HX := Lib.hid (List.getElem?_eq_getElem hlt)
      have HRO := Lib.hid (HR.out.ok _ (List.getElem_mem hlt))
      generalize rows[k] = x at HX HRO
      go_wp2_with fail
      refine HT.out.mono ?_
      rintro e w3 ⟨rfl, rfl⟩
      clear HT
      go_wp2
      go_loopw [5, 6] (fun nv kv wq => ∃ q : Nat, q ≤ rows.length ∧ kv = .int .i64 q ∧ nv = .int .i64 (cntB (rows.take q) x : Int) ∧ Hid (Below w3.heap.size w3 wq)) (fun _ kv _ => rows.length - (intOf kv).toNat)
      case atStart => exact ⟨0, Nat.zero_le _, rfl, rfl, Below.refl _ _⟩
      case round =>
        obtain ⟨q, hq, rfl, rfl, HQ⟩ := hrel
        have HBQ : Hid (Below w2.heap.size w2 wr) := HI.out.1.trans (HQ.out.mono HI.out.1.size)
        have HT := Lib.hid (rlen_yes (HR.out.keep HBQ.out))
        by_cases hlq : q < rows.length
        · have hlq' : (q : Int) < (rows.length : Int) := by omega
          have hq0 : (0 : Int) ≤ (q : Int) := by omega
          go_wp2_with fail
          refine HT.out.mono ?_
          rintro e w4 ⟨rfl, rfl⟩
          clear HT
          have hd := HBQ.out.drew
          have hqe := List.getElem?_eq_getElem hlq
          have l0 := run_loadRows ((HR.out.keep hd).rl.at (j := 2) rfl)
          have l1 := run_loadAtRow rfl (HR.out.keep hd).own (fun x hx => (HR.out.ok x hx).len) HX.out
          have l2 := run_loadAtRow rfl (HR.out.keep hd).own (fun x hx => (HR.out.ok x hx).len) hqe
          have HBL := fun u => Lib.hid (rbelow_any rows[q] x (HR.out.ok _ (List.getElem_mem hlq)) HRO.out u)
          have HST := Lib.hid (cnt_step (x := x) hlq)
          have hcl := cnt_le (rows.take q) x
          have htl : (rows.take q).length ≤ q := by simp; omega
          unfold rowV at l1 l2 HBL
          clear hqe hd
          generalize rows[q] = y at l2 HBL HST
          go_upto_region 9 with fail
          go_region_law (
            refine step_call rfl 54 Try.func54 (by kernel_rfl) (by kernel_rfl) #[.tmp 28, .tmp 35] _ rfl #[.agg (List.map cellI y).toArray, .agg (List.map cellI x).toArray] (by simp [Act.eval, Act.put]) (HBL _).out ?_
            rintro ee w5 ⟨rfl, b5⟩
            refine ⟨_, rfl, ?_⟩
            have HQ2 : Hid (Below w3.heap.size w3 w5) := HQ.out.drew.trans (b5.mono HQ.out.drew.size)
            clear b5)
          all_goals
            clear l0 l1 l2 HBL
            by_cases hb : lexI y x < 0
            · have hbd : decide (lexI y x < 0) = true := by simpa using hb
              have HE : Hid (cntB (rows.take (q + 1)) x = cntB (rows.take q) x + 1) := by show _ = _; rw [HST.out, if_pos hb]
              clear HST hb
              generalize decide (lexI y x < 0) = bb at hbd ⊢
              subst hbd
              generalize cntB (rows.take q) x = cn at HE hcl ⊢
              go_wp2
              go_roundw
              case rel => exact ⟨q + 1, by omega, by go_num, by rw [HE.out]; go_num, HQ2⟩
              case measure => simp [intOf]; omega
            · have hbd : decide (lexI y x < 0) = false := by simpa using hb
              have HE : Hid (cntB (rows.take (q + 1)) x = cntB (rows.take q) x) := by show _ = _; rw [HST.out, if_neg hb]; rfl
              clear HST hb
              generalize decide (lexI y x < 0) = bb at hbd ⊢
              subst hbd
              go_wp2
              go_roundw
              case rel => exact ⟨q + 1, by omega, by go_num, by rw [HE.out], HQ2⟩
              case measure => simp [intOf]; omega
        · obtain rfl : q = rows.length := by omega
          rw [List.take_length]
          have HCL := Lib.hid (cnt_lt HPS.out.1 HPS.out.2 (List.mem_of_getElem? HX.out))
          have HC1 : Hid (∀ y, y ∈ rows → cntB rows x = cntB rows y → x = y) := fun y hy e => cnt_one HPS.out.1 HPS.out.2 (List.mem_of_getElem? HX.out) hy e
          obtain ⟨cn, hcn⟩ : ∃ cn, cn = cntB rows x := ⟨_, rfl⟩
          rw [← hcn] at HCL HC1 ⊢
          have HCN := Lib.hid hcn
          have hcl := HCL.out
          have hcl' : (cn : Int) < (rows.length : Int) := by omega
          have hc0 : (0 : Int) ≤ (cn : Int) := by omega
          clear hcn
          have l0 := run_loadRows ((HR.out.keep HBQ.out).rl.at (j := 2) rfl)
          have l1 := run_loadAtRow rfl (HR.out.keep HBQ.out).own (fun x hx => (HR.out.ok x hx).len) HX.out
          have hown := own_below HI.out.2.2.2.1 HQ.out
          have hx24 : x.length = 24 := HRO.out.len
          have hst : (storeCells ⟨w2.heap.size, cn * 24, none⟩ (List.map cellI x)).run Try.prog wr = .ok () (wr.setCells w2.heap.size (cn * 24) (List.map cellI x)) := by
            have hk24 : ∀ j, j < 24 → cn * 24 + j < rows.length * 24 := fun j hj => by have := Nat.mul_le_mul_right 24 (show cn + 1 ≤ rows.length from hcl); omega
            have := run_storeCells_cells (P := Try.prog) w2.heap.size (cn * 24) (List.map cellI x) 0 wr (fun j hj => by
              rw [List.length_map, hx24] at hj
              have e1 := hown.cellAt (cn * 24 + j) (hk24 j hj)
              have e2 : cn * 24 + j < L.flatten.length := by rw [hown.1]; exact hk24 j hj
              rw [List.getElem?_eq_getElem e2] at e1
              simp [e1]) (fun j hj => by simpa using hown.frozenAt (cn * 24 + j)) (fun v hv => by obtain ⟨y, _, rfl⟩ := List.mem_map.1 hv; rfl)
            simpa using this
          have HN : Hid (Below w2.heap.size w2 (wr.setCells w2.heap.size (cn * 24) (List.map cellI x)) ∧ (L.set cn (x.map cellI)).length = rows.length ∧ (∀ y ∈ L.set cn (x.map cellI), y.length = 24) ∧ (wr.setCells w2.heap.size (cn * 24) (List.map cellI x)).ownsRow w2.heap.size 40 24 (.slice (some ⟨w2.heap.size, 0, none⟩) rows.length rows.length) rows.length (L.set cn (x.map cellI)).flatten ∧ ∀ j, j < k + 1 → ∀ y, rows[j]? = some y → (L.set cn (x.map cellI))[cntB rows y]? = some (y.map cellI)) := by
            refine ⟨BK.below_setCells (Nat.le_refl _) _ _ _ HBQ.out, by rw [List.length_set]; exact HI.out.2.1, fun y hy => ?_, own_put HI.out.2.2.1 hown (by rw [HI.out.2.1]; exact hcl) (by rw [List.length_map]; exact hx24), fun j hj y hy => ?_⟩
            · rcases List.mem_or_eq_of_mem_set hy with h1 | h1
              · exact HI.out.2.2.1 y h1
              · rw [h1, List.length_map]; exact hx24
            · by_cases e : cn = cntB rows y
              · have exy := HC1.out y (List.mem_of_getElem? hy) e
                rw [← e, exy, List.getElem?_set_self (by rw [HI.out.2.1]; exact hcl)]
              · rw [List.getElem?_set_ne e]
                refine HI.out.2.2.2.2 j ?_ y hy
                by_cases ej : j < k
                · exact ej
                · exfalso
                  obtain rfl : j = k := by omega
                  rw [HX.out] at hy
                  exact e (by rw [HCN.out, Option.some.inj hy])
          have HT2 := HT
          unfold rowV at l1
          clear hown HT2 HC1 HCL HCN
          go_wp2_with fail
          refine HT.out.mono ?_
          rintro e w4 ⟨rfl, rfl⟩
          clear HT
          go_wp2
          go_roundw
          case rel => exact ⟨k + 1, _, by omega, by go_num, HN⟩
          case measure => simp [intOf]; omega
    · obtain rfl : k = rows.length := by omega
      have HF := Lib.hid (sort_done HPS.out.1 HPS.out.2 HI.out.2.1 HI.out.2.2.2.2)
      go_wp2_with fail
      refine HT.out.mono ?_
      rintro e w3 ⟨rfl, rfl⟩
      clear HT
      go_wp2
      go_ret
      exact ⟨_, _, rfl, by rw [← HF.out]; exact HI.out.2.2.2.1, HI.out.1⟩
end Go.Proofs.Ytlnhnpfgmiffpaa
end
