import Derived.Test.YtlnhnpfgmiffpaaG6
namespace Go.Proofs.Ytlnhnpfgmiffpaa
open Go.RowKit Go.Maps
set_option linter.unusedVariables false
set_option linter.unusedSimpArgs false
attribute [local go_sem ↓] Go.wp_at_zero Go.wp_at_succ
attribute [-go_sem] loadVar
set_option maxHeartbeats 3200000 in
set_option maxRecDepth 100000 in
theorem rat_any {w : World} {B p : Nat} {sv : Value} {rows : List (List Int)} {ar tk : Int} (h : Rf w B p sv rows ar tk) (i : Nat) (r : List Int) (hi : rows[i]? = some r) (hlen : rows.length ≤ 1000000000) :
    Calls Try.prog 21 #[.pointer (some ⟨p, 0, none⟩), .int .i64 (i : Int)] w fun e w' => e = .returned (.tuple #[rowV r, .int .i64 0]) ∧ Below w.heap.size w w' := by
  have hb := (Below.refl w.heap.size w).alloc (Nat.le_refl _) (.cells (rowC zeroL) 40)
  have HB := Lib.hid hb
  have HZ := Lib.hid (rowAt_new w zeroL)
  have HR := Lib.hid (h.keep hb)
  have HT := Lib.hid (rthere_yes (h.keep hb))
  obtain ⟨hlt, _⟩ := List.getElem?_eq_some_iff.1 hi
  have HI := Lib.hid hi
  have hlt' : (i : Int) < (rows.length : Int) := by omega
  have hi0 : (0 : Int) ≤ (i : Int) := by omega
  clear h hb hi
  go_enter Try.func21, Try.ntmps21
  go_upto_region 1 with fail
  rw [show rowC zeroL = #[.int .i32 0, .int .i32 0, .int .i32 0, .int .i32 0, .int .i32 0, .int .i32 0, .int .i32 0, .int .i32 0, .int .i32 0, .int .i32 0, .int .i32 0, .int .i32 0, .int .i32 0, .int .i32 0, .int .i32 0, .int .i32 0, .int .i32 0, .int .i32 0, .int .i32 0, .int .i32 0, .int .i32 0, .int .i32 0, .int .i32 0, .int .i32 0] from rfl] at HB HR HT
  have HZ' : Hid ((w.alloc (.cells #[.int .i32 0, .int .i32 0, .int .i32 0, .int .i32 0, .int .i32 0, .int .i32 0, .int .i32 0, .int .i32 0, .int .i32 0, .int .i32 0, .int .i32 0, .int .i32 0, .int .i32 0, .int .i32 0, .int .i32 0, .int .i32 0, .int .i32 0, .int .i32 0, .int .i32 0, .int .i32 0, .int .i32 0, .int .i32 0, .int .i32 0, .int .i32 0] 40)).heap[w.heap.size]? = some (.cells #[.int .i32 0, .int .i32 0, .int .i32 0, .int .i32 0, .int .i32 0, .int .i32 0, .int .i32 0, .int .i32 0, .int .i32 0, .int .i32 0, .int .i32 0, .int .i32 0, .int .i32 0, .int .i32 0, .int .i32 0, .int .i32 0, .int .i32 0, .int .i32 0, .int .i32 0, .int .i32 0, .int .i32 0, .int .i32 0, .int .i32 0, .int .i32 0] 40 (0, 0))) := HZ.out
  clear HZ
  generalize w.alloc (.cells #[.int .i32 0, .int .i32 0, .int .i32 0, .int .i32 0, .int .i32 0, .int .i32 0, .int .i32 0, .int .i32 0, .int .i32 0, .int .i32 0, .int .i32 0, .int .i32 0, .int .i32 0, .int .i32 0, .int .i32 0, .int .i32 0, .int .i32 0, .int .i32 0, .int .i32 0, .int .i32 0, .int .i32 0, .int .i32 0, .int .i32 0, .int .i32 0] 40) = W at HB HR HT HZ' ⊢
  go_wp2_with fail
  refine HT.out.mono ?_
  rintro e w1 ⟨rfl, rfl⟩
  have hown := HR.out.own
  obtain ⟨ao, co, hsv, _⟩ := own_form hown
  subst hsv
  obtain ⟨g, hao⟩ : ∃ g, ao = some ⟨g, 0, none⟩ := by
    rcases hown.2 with ⟨h1, h2⟩ | ⟨g, cap, cur, hv, _⟩
    · omega
    · cases hv; exact ⟨g, rfl⟩
  subst hao
  have l0 := run_loadRows (HR.out.rl.at (j := 2) rfl)
  have l2 := run_loadAtRow rfl hown (fun x hx => (HR.out.ok x hx).len) HI.out
  unfold rowV at l2
  have HRK := Lib.hid (HR.out.ok r (List.mem_of_getElem? HI.out))
  clear HT hown HR
  go_wp2_with (refine wpList_storeRow _ rfl (.tmp 4) (.tmp 28) 40 rfl w.heap.size #[.int .i32 0, .int .i32 0, .int .i32 0, .int .i32 0, .int .i32 0, .int .i32 0, .int .i32 0, .int .i32 0, .int .i32 0, .int .i32 0, .int .i32 0, .int .i32 0, .int .i32 0, .int .i32 0, .int .i32 0, .int .i32 0, .int .i32 0, .int .i32 0, .int .i32 0, .int .i32 0, .int .i32 0, .int .i32 0, .int .i32 0, .int .i32 0] (List.map cellI r).toArray rfl rfl HZ'.out (by rw [show (List.map cellI r).toArray.size = 24 by simp [HRK.out.len]]; exact infoRow) (by simp [HRK.out.len]) (by simp [cellI, Value.oneCell']) ?_)
  have HF : RowAt (w1.setRow w.heap.size (List.map cellI r).toArray) w.heap.size r := setRow_heap w1 w.heap.size _ _ _ (0, 0) HZ'.out
  refine bodyPost_ret (rl_results3 Try.results21 (b := w.heap.size) (v := rowV r) (u := .int .i64 0) rfl rfl (run_loadRow HF HRK.out.len)) rfl ⟨rfl, ?_⟩
  exact HB.out.trans ⟨rfl, rfl, rfl, by simp, fun k hk => setRow_other w1 w.heap.size k _ (by omega)⟩
set_option maxHeartbeats 3200000 in
set_option maxRecDepth 100000 in
theorem rat_out {w : World} {B p : Nat} {sv : Value} {rows : List (List Int)} {ar tk : Int} (h : Rf w B p sv rows ar tk) (i : Int) (hi1 : (rows.length : Int) ≤ i) :
    Calls Try.prog 21 #[.pointer (some ⟨p, 0, none⟩), .int .i64 i] w fun e w' => e = .returned (.tuple #[rowV zeroL, .int .i64 1]) ∧ Below w.heap.size w w' := by
  have hb := (Below.refl w.heap.size w).alloc (Nat.le_refl _) (.cells (rowC zeroL) 40)
  have HB := Lib.hid hb
  have HZ := Lib.hid (rowAt_new w zeroL)
  have HR := Lib.hid (h.keep hb)
  have HT := Lib.hid (rthere_yes (h.keep hb))
  have hi0 : (0 : Int) ≤ i := by omega
  clear h hb
  go_enter Try.func21, Try.ntmps21
  go_upto_region 1 with fail
  rw [show rowC zeroL = #[.int .i32 0, .int .i32 0, .int .i32 0, .int .i32 0, .int .i32 0, .int .i32 0, .int .i32 0, .int .i32 0, .int .i32 0, .int .i32 0, .int .i32 0, .int .i32 0, .int .i32 0, .int .i32 0, .int .i32 0, .int .i32 0, .int .i32 0, .int .i32 0, .int .i32 0, .int .i32 0, .int .i32 0, .int .i32 0, .int .i32 0, .int .i32 0] from rfl] at HB HR HT
  have HZ' : Hid ((w.alloc (.cells #[.int .i32 0, .int .i32 0, .int .i32 0, .int .i32 0, .int .i32 0, .int .i32 0, .int .i32 0, .int .i32 0, .int .i32 0, .int .i32 0, .int .i32 0, .int .i32 0, .int .i32 0, .int .i32 0, .int .i32 0, .int .i32 0, .int .i32 0, .int .i32 0, .int .i32 0, .int .i32 0, .int .i32 0, .int .i32 0, .int .i32 0, .int .i32 0] 40)).heap[w.heap.size]? = some (.cells #[.int .i32 0, .int .i32 0, .int .i32 0, .int .i32 0, .int .i32 0, .int .i32 0, .int .i32 0, .int .i32 0, .int .i32 0, .int .i32 0, .int .i32 0, .int .i32 0, .int .i32 0, .int .i32 0, .int .i32 0, .int .i32 0, .int .i32 0, .int .i32 0, .int .i32 0, .int .i32 0, .int .i32 0, .int .i32 0, .int .i32 0, .int .i32 0] 40 (0, 0))) := HZ.out
  clear HZ
  generalize w.alloc (.cells #[.int .i32 0, .int .i32 0, .int .i32 0, .int .i32 0, .int .i32 0, .int .i32 0, .int .i32 0, .int .i32 0, .int .i32 0, .int .i32 0, .int .i32 0, .int .i32 0, .int .i32 0, .int .i32 0, .int .i32 0, .int .i32 0, .int .i32 0, .int .i32 0, .int .i32 0, .int .i32 0, .int .i32 0, .int .i32 0, .int .i32 0, .int .i32 0] 40) = W at HB HR HT HZ' ⊢
  go_wp2_with fail
  refine HT.out.mono ?_
  rintro e w1 ⟨rfl, rfl⟩
  obtain ⟨ao, co, hsv, _⟩ := own_form HR.out.own
  subst hsv
  have l0 := run_loadRows (HR.out.rl.at (j := 2) rfl)
  clear HT HR
  go_wp2_with (refine wpList_storeRow _ rfl (.tmp 4) (.tmp 21) 40 rfl w.heap.size #[.int .i32 0, .int .i32 0, .int .i32 0, .int .i32 0, .int .i32 0, .int .i32 0, .int .i32 0, .int .i32 0, .int .i32 0, .int .i32 0, .int .i32 0, .int .i32 0, .int .i32 0, .int .i32 0, .int .i32 0, .int .i32 0, .int .i32 0, .int .i32 0, .int .i32 0, .int .i32 0, .int .i32 0, .int .i32 0, .int .i32 0, .int .i32 0] (List.map cellI zeroL).toArray rfl rfl HZ'.out (by rw [show (List.map cellI zeroL).toArray.size = 24 by decide]; exact infoRow) (by decide) (by kernel_rfl) ?_)
  have HF : RowAt (w1.setRow w.heap.size (List.map cellI zeroL).toArray) w.heap.size zeroL := setRow_heap w1 w.heap.size _ _ _ (0, 0) HZ'.out
  refine bodyPost_ret (rl_results3 Try.results21 (b := w.heap.size) (v := rowV zeroL) (u := .int .i64 1) rfl rfl (run_loadRow HF zeroL_ok.len)) rfl ⟨rfl, ?_⟩
  exact HB.out.trans ⟨rfl, rfl, rfl, by simp, fun k hk => setRow_other w1 w.heap.size k _ (by omega)⟩
set_option maxHeartbeats 3200000 in
set_option maxRecDepth 100000 in
theorem rat_low {w : World} {B p : Nat} {sv : Value} {rows : List (List Int)} {ar tk : Int} (h : Rf w B p sv rows ar tk) (i : Int) (hi0 : i < 0) :
    Calls Try.prog 21 #[.pointer (some ⟨p, 0, none⟩), .int .i64 i] w fun e w' => e = .returned (.tuple #[rowV zeroL, .int .i64 1]) ∧ Below w.heap.size w w' := by
  have hb := (Below.refl w.heap.size w).alloc (Nat.le_refl _) (.cells (rowC zeroL) 40)
  have HB := Lib.hid hb
  have HZ := Lib.hid (rowAt_new w zeroL)
  have HR := Lib.hid (h.keep hb)
  have HT := Lib.hid (rthere_yes (h.keep hb))
  clear h hb
  go_enter Try.func21, Try.ntmps21
  go_upto_region 1 with fail
  rw [show rowC zeroL = #[.int .i32 0, .int .i32 0, .int .i32 0, .int .i32 0, .int .i32 0, .int .i32 0, .int .i32 0, .int .i32 0, .int .i32 0, .int .i32 0, .int .i32 0, .int .i32 0, .int .i32 0, .int .i32 0, .int .i32 0, .int .i32 0, .int .i32 0, .int .i32 0, .int .i32 0, .int .i32 0, .int .i32 0, .int .i32 0, .int .i32 0, .int .i32 0] from rfl] at HB HR HT
  have HZ' : Hid ((w.alloc (.cells #[.int .i32 0, .int .i32 0, .int .i32 0, .int .i32 0, .int .i32 0, .int .i32 0, .int .i32 0, .int .i32 0, .int .i32 0, .int .i32 0, .int .i32 0, .int .i32 0, .int .i32 0, .int .i32 0, .int .i32 0, .int .i32 0, .int .i32 0, .int .i32 0, .int .i32 0, .int .i32 0, .int .i32 0, .int .i32 0, .int .i32 0, .int .i32 0] 40)).heap[w.heap.size]? = some (.cells #[.int .i32 0, .int .i32 0, .int .i32 0, .int .i32 0, .int .i32 0, .int .i32 0, .int .i32 0, .int .i32 0, .int .i32 0, .int .i32 0, .int .i32 0, .int .i32 0, .int .i32 0, .int .i32 0, .int .i32 0, .int .i32 0, .int .i32 0, .int .i32 0, .int .i32 0, .int .i32 0, .int .i32 0, .int .i32 0, .int .i32 0, .int .i32 0] 40 (0, 0))) := HZ.out
  clear HZ
  generalize w.alloc (.cells #[.int .i32 0, .int .i32 0, .int .i32 0, .int .i32 0, .int .i32 0, .int .i32 0, .int .i32 0, .int .i32 0, .int .i32 0, .int .i32 0, .int .i32 0, .int .i32 0, .int .i32 0, .int .i32 0, .int .i32 0, .int .i32 0, .int .i32 0, .int .i32 0, .int .i32 0, .int .i32 0, .int .i32 0, .int .i32 0, .int .i32 0, .int .i32 0] 40) = W at HB HR HT HZ' ⊢
  go_wp2_with fail
  refine HT.out.mono ?_
  rintro e w1 ⟨rfl, rfl⟩
  obtain ⟨ao, co, hsv, _⟩ := own_form HR.out.own
  subst hsv
  have l0 := run_loadRows (HR.out.rl.at (j := 2) rfl)
  clear HT HR
  go_wp2_with (refine wpList_storeRow _ rfl (.tmp 4) (.tmp 21) 40 rfl w.heap.size #[.int .i32 0, .int .i32 0, .int .i32 0, .int .i32 0, .int .i32 0, .int .i32 0, .int .i32 0, .int .i32 0, .int .i32 0, .int .i32 0, .int .i32 0, .int .i32 0, .int .i32 0, .int .i32 0, .int .i32 0, .int .i32 0, .int .i32 0, .int .i32 0, .int .i32 0, .int .i32 0, .int .i32 0, .int .i32 0, .int .i32 0, .int .i32 0] (List.map cellI zeroL).toArray rfl rfl HZ'.out (by rw [show (List.map cellI zeroL).toArray.size = 24 by decide]; exact infoRow) (by decide) (by kernel_rfl) ?_)
  have HF : RowAt (w1.setRow w.heap.size (List.map cellI zeroL).toArray) w.heap.size zeroL := setRow_heap w1 w.heap.size _ _ _ (0, 0) HZ'.out
  refine bodyPost_ret (rl_results3 Try.results21 (b := w.heap.size) (v := rowV zeroL) (u := .int .i64 1) rfl rfl (run_loadRow HF zeroL_ok.len)) rfl ⟨rfl, ?_⟩
  exact HB.out.trans ⟨rfl, rfl, rfl, by simp, fun k hk => setRow_other w1 w.heap.size k _ (by omega)⟩
end Go.Proofs.Ytlnhnpfgmiffpaa
