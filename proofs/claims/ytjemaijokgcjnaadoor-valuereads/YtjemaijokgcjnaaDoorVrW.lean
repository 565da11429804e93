import Derived.Test.YtjemaijokgcjnaaDoorVrRead
namespace Go.Proofs.YtjemaijokgcjnaaDoor
open Go.RowKit Go.Maps
set_option linter.unusedVariables false
set_option linter.unusedSimpArgs false
attribute [local go_sem ↓] Go.wp_at_zero Go.wp_at_succ

theorem rd_form (o : Option V) : ∃ (k n : Int) (t : ByteArray) (e : Int), rdV o = .tuple #[.agg #[.int .i8 k, .int .i64 n, .string t], .int .i64 e] := by
  cases o with
  | none => exact ⟨_, _, _, _, rfl⟩
  | some u => exact ⟨_, _, _, _, rfl⟩
set_option maxHeartbeats 3200000 in
set_option maxRecDepth 100000 in
theorem valueReads_walk (s : ByteArray) (w : World) (hg : Gv w) (hs : s.size ≤ 140737488355328) :
    Calls Tryd.prog 3 #[.string s] w fun e w' => e = .returned (.bool true) ∧ Below w.heap.size w w' := by
  obtain ⟨k, n, t, E, hE⟩ := rd_form (readV s)
  have HR := Lib.hid (rread_any s hs w)
  have HD := fun W hW => Lib.hid (read_any s hs W hW)
  rw [hE] at HR HD
  have HG := Lib.hid hg
  clear hE hs hg
  go_enter Tryd.func3, Tryd.ntmps3
  go_wp2_with fail
  refine HR.out.mono ?_
  rintro e w1 ⟨rfl, b1⟩
  have ha1 : Below w1.heap.size w1 (w1.alloc (.cells #[.int .i8 k, .int .i64 n, .string t] 25)) := (Below.refl _ _).alloc (Nat.le_refl _) _
  have HG1 := Lib.hid ((HG.out.below b1).below ha1)
  have b2 := b1.trans (ha1.mono b1.size)
  have c0 : (w1.alloc (.cells #[.int .i8 k, .int .i64 n, .string t] 25)).cell? ⟨w1.heap.size, 0, none⟩ = some (.int .i8 k) := keptC (Below.refl _ _) 0 _ rfl
  have c1 : (w1.alloc (.cells #[.int .i8 k, .int .i64 n, .string t] 25)).cell? ⟨w1.heap.size, 1, none⟩ = some (.int .i64 n) := keptC (Below.refl _ _) 1 _ rfl
  have c2 : (w1.alloc (.cells #[.int .i8 k, .int .i64 n, .string t] 25)).cell? ⟨w1.heap.size, 2, none⟩ = some (.string t) := keptC (Below.refl _ _) 2 _ rfl
  have Z1 := Lib.hid (show w1.heap.size < (w1.alloc (.cells #[.int .i8 k, .int .i64 n, .string t] 25)).heap.size by simp)
  clear HR HG b1 ha1
  go_upto_region 2 with fail
  generalize w1.alloc (.cells #[.int .i8 k, .int .i64 n, .string t] 25) = W2 at HG1 b2 c0 c1 c2 Z1 ⊢
  go_wp2_with fail
  refine (HD _ HG1.out).out.mono ?_
  rintro e w3 ⟨rfl, b3⟩
  have ha3 : Below w3.heap.size w3 (w3.alloc (.cells #[.int .i8 k, .int .i64 n, .string t] 25)) := (Below.refl _ _).alloc (Nat.le_refl _) _
  have b4 := b2.trans (b3.mono b2.size)
  have b5 := b4.trans (ha3.mono b4.size)
  have z3 := Nat.lt_of_lt_of_le Z1.out b3.size
  have d0 : (w3.alloc (.cells #[.int .i8 k, .int .i64 n, .string t] 25)).cell? ⟨w1.heap.size, 0, none⟩ = some (.int .i8 k) := by rw [ha3.cell (by exact z3), b3.cell (by exact Z1.out)]; exact c0
  have d1 : (w3.alloc (.cells #[.int .i8 k, .int .i64 n, .string t] 25)).cell? ⟨w1.heap.size, 1, none⟩ = some (.int .i64 n) := by rw [ha3.cell (by exact z3), b3.cell (by exact Z1.out)]; exact c1
  have d2 : (w3.alloc (.cells #[.int .i8 k, .int .i64 n, .string t] 25)).cell? ⟨w1.heap.size, 2, none⟩ = some (.string t) := by rw [ha3.cell (by exact z3), b3.cell (by exact Z1.out)]; exact c2
  have g0 : (w3.alloc (.cells #[.int .i8 k, .int .i64 n, .string t] 25)).cell? ⟨w3.heap.size, 0, none⟩ = some (.int .i8 k) := keptC (Below.refl _ _) 0 _ rfl
  have g1 : (w3.alloc (.cells #[.int .i8 k, .int .i64 n, .string t] 25)).cell? ⟨w3.heap.size, 1, none⟩ = some (.int .i64 n) := keptC (Below.refl _ _) 1 _ rfl
  have g2 : (w3.alloc (.cells #[.int .i8 k, .int .i64 n, .string t] 25)).cell? ⟨w3.heap.size, 2, none⟩ = some (.string t) := keptC (Below.refl _ _) 2 _ rfl
  clear HD HG1 b2 b3 b4 ha3 z3 Z1 c0 c1 c2
  go_upto_region 3 with fail
  generalize w3.alloc (.cells #[.int .i8 k, .int .i64 n, .string t] 25) = W4 at b5 d0 d1 d2 g0 g1 g2 ⊢
  go_wp2
  go_ret
  exact ⟨rfl, b5⟩
end Go.Proofs.YtjemaijokgcjnaaDoor
