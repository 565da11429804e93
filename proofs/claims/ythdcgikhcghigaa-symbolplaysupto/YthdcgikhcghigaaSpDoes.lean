import Derived.Test.YthdcgikhcghigaaSpAsk
namespace Go.Proofs.Ythdcgikhcghigaa
open Go.RowKit Go.Maps Go.Shelf
set_option linter.unusedVariables false
set_option linter.unusedSimpArgs false
attribute [local go_sem ↓] Go.wp_at_zero Go.wp_at_succ

attribute [-go_sem] loadVar
set_option maxHeartbeats 3200000 in
set_option maxRecDepth 100000 in
theorem does_ask {w : World} {t oo : Nat} {R : World → Prop} (on k n m : Int) (v : V) (lv : Value) (r : List Int) (hr : r.length = 24) (h1 : k ≠ 1) (h2 : k ≠ 2) (h3 : k ≠ 3) (h4 : k ≠ 4) (h5 : k ≠ 5) (h6 : k ≠ 6)
    (HA : Calls Try.prog 20 #[.pointer (some ⟨t, oo, none⟩), .agg (opL on k n m v lv r).toArray] (w.alloc (.cells (opL on k n m v lv r).toArray 45)) fun e w' => e = .returned (.bool true) ∧ R w') :
    Calls Try.prog 6 #[.pointer (some ⟨t, oo, none⟩), .agg (opL on k n m v lv r).toArray] w fun e w' => e = .returned (.bool true) ∧ R w' := by
  have O := Lib.hid (opAt_new w on k n m v lv r)
  have HC := Lib.hid HA
  have e1 : ((k : Int) == 1) = false := by simpa using h1
  have e2 : ((k : Int) == 2) = false := by simpa using h2
  have e3 : ((k : Int) == 3) = false := by simpa using h3
  have e4 : ((k : Int) == 4) = false := by simpa using h4
  have e5 : ((k : Int) == 5) = false := by simpa using h5
  have e6 : ((k : Int) == 6) = false := by simpa using h6
  clear h1 h2 h3 h4 h5 h6
  clear HA
  go_enter Try.func6, Try.ntmps6
  go_upto_region 1 with fail
  generalize w.alloc (.cells (opL on k n m v lv r).toArray 45) = W at O HC ⊢
  have hc1 := run_loadInt O.out.c1
  have hld := O.out.load hr
  clear O
  go_wp2_with fail
  refine HC.out.mono ?_
  rintro e w2 ⟨rfl, hR⟩
  have HR := Lib.hid hR
  clear hR HC
  go_wp2
  go_ret
  exact ⟨rfl, HR.out⟩
set_option maxHeartbeats 3200000 in
set_option maxRecDepth 100000 in
theorem does_rows4 {w : World} {t oo : Nat} {R : World → Prop} (on n m : Int) (v : V) (lv : Value) (r : List Int) (hr : r.length = 24) 
    (HA : Calls Try.prog 19 #[.pointer (some ⟨t, oo, none⟩), .agg (opL on 4 n m v lv r).toArray] (w.alloc (.cells (opL on 4 n m v lv r).toArray 45)) fun e w' => e = .returned (.bool true) ∧ R w') :
    Calls Try.prog 6 #[.pointer (some ⟨t, oo, none⟩), .agg (opL on 4 n m v lv r).toArray] w fun e w' => e = .returned (.bool true) ∧ R w' := by
  have O := Lib.hid (opAt_new w on 4 n m v lv r)
  have HC := Lib.hid HA
  clear HA
  go_enter Try.func6, Try.ntmps6
  go_upto_region 1 with fail
  generalize w.alloc (.cells (opL on 4 n m v lv r).toArray 45) = W at O HC ⊢
  have hc1 := run_loadInt O.out.c1
  have hld := O.out.load hr
  clear O
  go_wp2_with fail
  refine HC.out.mono ?_
  rintro e w2 ⟨rfl, hR⟩
  have HR := Lib.hid hR
  clear hR HC
  go_wp2
  go_ret
  exact ⟨rfl, HR.out⟩
set_option maxHeartbeats 3200000 in
set_option maxRecDepth 100000 in
theorem does_rows5 {w : World} {t oo : Nat} {R : World → Prop} (on n m : Int) (v : V) (lv : Value) (r : List Int) (hr : r.length = 24) 
    (HA : Calls Try.prog 19 #[.pointer (some ⟨t, oo, none⟩), .agg (opL on 5 n m v lv r).toArray] (w.alloc (.cells (opL on 5 n m v lv r).toArray 45)) fun e w' => e = .returned (.bool true) ∧ R w') :
    Calls Try.prog 6 #[.pointer (some ⟨t, oo, none⟩), .agg (opL on 5 n m v lv r).toArray] w fun e w' => e = .returned (.bool true) ∧ R w' := by
  have O := Lib.hid (opAt_new w on 5 n m v lv r)
  have HC := Lib.hid HA
  clear HA
  go_enter Try.func6, Try.ntmps6
  go_upto_region 1 with fail
  generalize w.alloc (.cells (opL on 5 n m v lv r).toArray 45) = W at O HC ⊢
  have hc1 := run_loadInt O.out.c1
  have hld := O.out.load hr
  clear O
  go_wp2_with fail
  refine HC.out.mono ?_
  rintro e w2 ⟨rfl, hR⟩
  have HR := Lib.hid hR
  clear hR HC
  go_wp2
  go_ret
  exact ⟨rfl, HR.out⟩
set_option maxHeartbeats 3200000 in
set_option maxRecDepth 100000 in
theorem does_rows6 {w : World} {t oo : Nat} {R : World → Prop} (on n m : Int) (v : V) (lv : Value) (r : List Int) (hr : r.length = 24) 
    (HA : Calls Try.prog 19 #[.pointer (some ⟨t, oo, none⟩), .agg (opL on 6 n m v lv r).toArray] (w.alloc (.cells (opL on 6 n m v lv r).toArray 45)) fun e w' => e = .returned (.bool true) ∧ R w') :
    Calls Try.prog 6 #[.pointer (some ⟨t, oo, none⟩), .agg (opL on 6 n m v lv r).toArray] w fun e w' => e = .returned (.bool true) ∧ R w' := by
  have O := Lib.hid (opAt_new w on 6 n m v lv r)
  have HC := Lib.hid HA
  clear HA
  go_enter Try.func6, Try.ntmps6
  go_upto_region 1 with fail
  generalize w.alloc (.cells (opL on 6 n m v lv r).toArray 45) = W at O HC ⊢
  have hc1 := run_loadInt O.out.c1
  have hld := O.out.load hr
  clear O
  go_wp2_with fail
  refine HC.out.mono ?_
  rintro e w2 ⟨rfl, hR⟩
  have HR := Lib.hid hR
  clear hR HC
  go_wp2
  go_ret
  exact ⟨rfl, HR.out⟩
end Go.Proofs.Ythdcgikhcghigaa
