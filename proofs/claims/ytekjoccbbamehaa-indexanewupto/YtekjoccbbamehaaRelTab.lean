import Derived.Test.YtekjoccbbamehaaRelGen
namespace Go.Proofs.Ytekjoccbbamehaa
open Go.RowKit Go.Maps
set_option linter.unusedVariables false
set_option linter.unusedSimpArgs false
attribute [local go_sem ↓] Go.wp_at_zero Go.wp_at_succ

theorem own_of_block {w w' : World} {base : Nat} {e : TypeId} {k : Nat} {sv : Value} {n : Nat} {xs : List Value} (h : w.ownsRow base e k sv n xs) (hg : ∀ g, sv.ownBlock = some g → w'.heap[g]? = w.heap[g]?) : w'.ownsRow base e k sv n xs := by
  obtain ⟨hl, h1 | ⟨g, cap, cur, rfl, h0, hb, r⟩⟩ := h
  · exact ⟨hl, .inl h1⟩
  · exact ⟨hl, .inr ⟨g, cap, cur, rfl, h0, (hg g rfl).trans hb, r⟩⟩
theorem own_form {w : World} {base : Nat} {e : TypeId} {k : Nat} {sv : Value} {n : Nat} {xs : List Value} (h : w.ownsRow base e k sv n xs) : ∃ a c, sv = .slice a n c ∧ n ≤ maxLen := by
  obtain ⟨hl, ⟨rfl, rfl⟩ | ⟨g, cap, cur, rfl, _, hb, hn, hc, hs, ht⟩⟩ := h
  · exact ⟨none, 0, rfl, Nat.zero_le _⟩
  · exact ⟨_, cap, rfl, Nat.le_trans hn hc⟩
theorem own_below {w w' : World} {B : Nat} {e : TypeId} {k : Nat} {v : Value} {n : Nat} {xs : List Value} (h : w.ownsRow B e k v n xs) (hb : Below w.heap.size w w') : w'.ownsRow B e k v n xs := own_of_block h (fun g hg => hb.block g (h.lt g hg).2)
/-- a relation in memory: its block t, its map m, its list sv; all of its own from B on -/
structure Rel (w : World) (B t m : Nat) (sv : Value) (rows : List (List Int)) (ar gone : Int) : Prop where
  rl : RL w t 65 [sv, .map (some m), .int .i64 ar, .int .i64 gone]
  own : w.ownsRow B 34 24 sv rows.length (rows.flatMap (fun r => r.map cellI))
  map : MapR w m rows
  nd : rows.Nodup
  ok : ∀ r ∈ rows, RowOk r
  lo : B ≤ t ∧ B ≤ m
  ne : t ≠ m ∧ ∀ g, sv.ownBlock = some g → g ≠ t ∧ g ≠ m
theorem Rel.keep {w w' : World} {B t m : Nat} {sv : Value} {rows : List (List Int)} {ar gone : Int} (h : Rel w B t m sv rows ar gone) (hb : Below w.heap.size w w') : Rel w' B t m sv rows ar gone :=
  ⟨h.rl.below hb, own_below h.own hb, h.map.below hb, h.nd, h.ok, h.lo, h.ne⟩
theorem run_loadMap {w : World} {a : Addr} {v : Value} (h : w.cell? a = some v) : (loadVar 61 a).run Try.prog w = .ok v w := by
  simp [loadVar, go_sem, h]
theorem map_there (m : Nat) (w : World) : (binOp .neq 61 (.map (some m)) (.map none)).run Try.prog w = .ok (.bool true) w := by kernel_rfl
theorem map_gone (w : World) : (binOp .neq 61 (.map none) (.map none)).run Try.prog w = .ok (.bool false) w := by kernel_rfl
set_option maxHeartbeats 800000 in
set_option maxRecDepth 100000 in
theorem there_yes {w : World} {B t m : Nat} {sv : Value} {rows : List (List Int)} {ar gone : Int} (h : Rel w B t m sv rows ar gone) : Calls Try.prog 24 #[.pointer (some ⟨t, 0, none⟩)] w fun e w' => e = .returned (.bool true) ∧ w' = w := by
  have c1 := h.rl.at (j := 1) rfl
  have hm := map_there m w
  clear h
  go_enter Try.func24, Try.ntmps24
  go_wp2
  go_ret
  exact ⟨rfl, rfl⟩
set_option maxHeartbeats 800000 in
set_option maxRecDepth 100000 in
theorem there_nil (w : World) : Calls Try.prog 24 #[.pointer none] w fun e w' => e = .returned (.bool false) ∧ w' = w := by
  go_enter Try.func24, Try.ntmps24
  go_wp2
  go_ret
  exact ⟨rfl, rfl⟩
set_option maxHeartbeats 800000 in
set_option maxRecDepth 100000 in
theorem len_yes {w : World} {B t m : Nat} {sv : Value} {rows : List (List Int)} {ar gone : Int} (h : Rel w B t m sv rows ar gone) : Calls Try.prog 8 #[.pointer (some ⟨t, 0, none⟩)] w fun e w' => e = .returned (.int .i64 (rows.length : Int)) ∧ w' = w := by
  have c0 := h.rl.at (j := 0) rfl
  obtain ⟨a, c, rfl, _⟩ := own_form h.own
  have HT := Lib.hid (there_yes h)
  clear h
  go_enter Try.func8, Try.ntmps8
  go_wp2_with fail
  refine HT.out.mono ?_
  rintro e w1 ⟨rfl, rfl⟩
  go_wp2
  go_ret
  exact ⟨rfl, rfl⟩
set_option maxHeartbeats 800000 in
set_option maxRecDepth 100000 in
theorem arity_yes {w : World} {B t m : Nat} {sv : Value} {rows : List (List Int)} {ar gone : Int} (h : Rel w B t m sv rows ar gone) : Calls Try.prog 43 #[.pointer (some ⟨t, 0, none⟩)] w fun e w' => e = .returned (.int .i64 ar) ∧ w' = w := by
  have c2 := h.rl.at (j := 2) rfl
  have HT := Lib.hid (there_yes h)
  clear h
  go_enter Try.func43, Try.ntmps43
  go_wp2_with fail
  refine HT.out.mono ?_
  rintro e w1 ⟨rfl, rfl⟩
  go_wp2
  go_ret
  exact ⟨rfl, rfl⟩
end Go.Proofs.Ytekjoccbbamehaa
