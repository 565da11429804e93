import Derived.Test.YthdcgikhcghigaaSpAll
namespace Go.Proofs.Ythdcgikhcghigaa
open Go.RowKit Go.Maps Go.ChangeMaps
set_option linter.unusedVariables false
set_option linter.unusedSimpArgs false
attribute [local go_sem ↓] Go.wp_at_zero Go.wp_at_succ

def inT (vs : List V) (s : Int) : Prop := 0 ≤ s ∧ s < vs.length
def tupV (vs : List V) (ss : Nat → Int) (n : Nat) : List V := (List.range n).map fun i => atV vs (ss i).toNat
theorem tupV_snoc (vs : List V) (ss : Nat → Int) (n : Nat) : tupV vs ss (n + 1) = tupV vs ss n ++ [atV vs (ss n).toNat] := by simp [tupV, List.range_succ]
theorem tupV_length (vs : List V) (ss : Nat → Int) (n : Nat) : (tupV vs ss n).length = n := by simp [tupV]
theorem own_lowS {w : World} {B B' : Nat} {e : TypeId} {k : Nat} {v : Value} {n : Nat} {xs : List Value} (h : w.ownsRow B e k v n xs) (hB : B' ≤ B) : w.ownsRow B' e k v n xs := by
  obtain ⟨hl, h1 | ⟨g, cap, cur, rfl, h0, r⟩⟩ := h
  · exact ⟨hl, .inl h1⟩
  · exact ⟨hl, .inr ⟨g, cap, cur, rfl, Nat.le_trans hB h0, r⟩⟩
set_option maxHeartbeats 3200000 in
set_option maxRecDepth 100000 in
theorem rttuple_any {w : World} {B p : Nat} {sv : Value} {vs : List V} {most : Int} (h : Rt w B p sv vs most) (hlen : vs.length ≤ 1000000000) (C : Array Value) (hCs : C.size = 24) (n : Nat) (hn : n ≤ 24) (ss : Nat → Int) (hC : ∀ i, i < 24 → C[i]? = some (.int .i32 (ss i))) (hss : ∀ i, i < 24 → -2147483648 ≤ ss i ∧ ss i ≤ 2147483647) :
    Calls Try.prog 28 #[.pointer (some ⟨p, 0, none⟩), .agg C, .int .i64 n] w fun e w' =>
      (((∀ i, i < n → inT vs (ss i)) ∧ ∃ o, e = .returned (.tuple #[o, .int .i64 0]) ∧ w'.ownsRow w.heap.size 39 3 o n ((tupV vs ss n).flatMap V.cells)) ∨
      ((∃ i, i < n ∧ ¬ inT vs (ss i)) ∧ e = .returned (.tuple #[.slice none 0 0, .int .i64 21]))) ∧ Below w.heap.size w w' := by
  obtain ⟨i0, hi0, hz0, hz1, hz2⟩ := info_parts infoVal
  have HB := Lib.hid (belowA (w := w) (.cells C 43))
  have HA : Hid ((w.alloc (.cells C 43)).heap[w.heap.size]? = some (.cells C 43 (0, 0))) := heap_alloc_new _ _
  have HR := Lib.hid (h.keep HB.out)
  have HT := Lib.hid (rtthere_yes HR.out)
  clear h
  go_enter Try.func28, Try.ntmps28
  go_wp2_with fail
  refine HT.out.mono ?_
  rintro e w1 ⟨rfl, rfl⟩
  clear HT
  have HZ : Hid (w.heap.size < (w.alloc (.cells C 43)).heap.size) := by show _ < _; simp
  generalize w.alloc (.cells C 43) = W at HB HA HR HZ ⊢
  have HCC := Lib.hid hC
  have HSS := Lib.hid hss
  clear hC hss
  go_wp2
  go_loopw [8, 9] (fun o i wr => ∃ k : Nat, k ≤ n ∧ i = .int .i64 k ∧ Hid (Below W.heap.size W wr) ∧ Hid (∀ j, j < k → inT vs (ss j)) ∧ wr.ownsRow W.heap.size 39 3 o k ((tupV vs ss k).flatMap V.cells)) (fun _ i _ => n - (intOf i).toNat)
  case atStart => exact ⟨0, Nat.zero_le _, rfl, Below.refl _ _, fun j hj => by omega, World.ownsRow_nil _ _ _ _⟩
  case round =>
    obtain ⟨k, hk, rfl, HBW, HN, own⟩ := hrel
    have HR1 := Lib.hid (HR.out.keep HBW.out)
    by_cases hlt : k < n
    · have hlt' : (k : Int) < (n : Int) := by omega
      have hk24 : k < 24 := by omega
      have hk24' : (k : Int) < 24 := by omega
      have y0 : wr.cell? ⟨w.heap.size, k, none⟩ = some (.int .i32 (ss k)) := by
        simp only [World.cell?]
        rw [HBW.out.block _ HZ.out, HA.out]
        simp [HCC.out k hk24]
      have HOW := Lib.hid own
      obtain ⟨ao, co, rfl, hlo, _⟩ := ownsRow_form own
      clear own
      by_cases hin : inT vs (ss k)
      · have HIN := Lib.hid hin
        have HV := Lib.hid (rtvalue_in HR1.out (i := (ss k).toNat) (by have := hin.1; have := hin.2; omega) (by omega))
        have hcast : (((ss k).toNat : Nat) : Int) = ss k := Int.toNat_of_nonneg hin.1
        rw [hcast] at HV
        have HS := Lib.hid (tupV_snoc vs ss k)
        clear hin hcast HR1
        generalize atV vs (ss k).toNat = x at HV HS
        generalize ss k = sk at y0 HV
        go_wp2_with fail
        refine HV.out.mono ?_
        rintro e w2 ⟨rfl, hb2⟩
        have HB2 := Lib.hid (HBW.out.trans (hb2.mono HBW.out.size))
        have HO2 := Lib.hid (own_belowW HOW.out hb2)
        clear hb2 HV y0
        have hba : Below w2.heap.size w2 (w2.alloc (.cells #[.int .i8 x.k, .int .i64 x.n, .string x.s] 39)) := belowA _
        have hbb : Below (w2.alloc (.cells #[.int .i8 x.k, .int .i64 x.n, .string x.s] 39)).heap.size (w2.alloc (.cells #[.int .i8 x.k, .int .i64 x.n, .string x.s] 39)) ((w2.alloc (.cells #[.int .i8 x.k, .int .i64 x.n, .string x.s] 39)).alloc (.cells #[.int .i8 x.k, .int .i64 x.n, .string x.s] 39)) := belowA _
        have HOWN := Lib.hid (own_belowW (own_belowW HO2.out hba) hbb)
        have HB3 := Lib.hid (hba.trans (hbb.mono hba.size))
        have HNW := one_news (w2.alloc (.cells #[.int .i8 x.k, .int .i64 x.n, .string x.s] 39)) x
        have esz : (w2.alloc (.cells #[.int .i8 x.k, .int .i64 x.n, .string x.s] 39)).heap.size = w2.heap.size + 1 := by simp
        rw [esz] at HNW
        have HNW := Lib.hid HNW
        have hsz2 : W.heap.size ≤ w2.heap.size := HB2.out.size
        have hszw := HZ.out
        clear hba hbb esz
        go_wp2_with (at_builtin; revert HB3)
        intro HB3
        refine wpList_append_own_at _ rfl _ _ 40 rfl W.heap.size 39 i0 _ 3 32 Try.underlying40 hi0 hz0 hz1 hz2 rfl (by decide) _ _ _ rfl HOWN.out ⟨w2.heap.size + 1, 0, none⟩ 1 1 [.int .i8 x.k, .int .i64 x.n, .string x.s] rfl rfl HNW.out (by simp [Value.oneCell']) (by unfold maxLen; omega) (by omega) (by simp; omega) ?_
        intro v' w3 hown' hgrow hnil hloc
        go_wp2
        go_roundw
        case rel =>
          refine ⟨k + 1, by omega, by go_num, (HB2.out.trans (HB3.out.mono HB2.out.size)).grown hgrow (by have := HB3.out.size; omega) (fun j hj => (HO2.out.lt j hj).1), fun j hj => ?_, by rw [HS.out, flat_snoc]; exact hown'⟩
          by_cases e : j < k
          · exact HN.out j e
          · obtain rfl : j = k := by omega
            exact HIN.out
        case measure => simp [intOf]; omega
      · have HIN := Lib.hid hin
        have HV := Lib.hid (rtvalue_out HR1.out (i := ss k) (by unfold inT at hin; omega) (HSS.out k hk24).1 (HSS.out k hk24).2)
        clear hin HR1
        go_wp2_with fail
        refine HV.out.mono ?_
        rintro e w2 ⟨rfl, hb2⟩
        have HB2 := Lib.hid (HBW.out.trans (hb2.mono HBW.out.size))
        clear hb2 HV y0
        go_wp2
        go_ret2
        exact ⟨.inr ⟨⟨k, hlt, HIN.out⟩, rfl⟩, HB.out.trans ((HB2.out.trans (belowA _ |>.mono HB2.out.size)).mono HB.out.size)⟩
    · obtain rfl : k = n := by omega
      clear HR1
      go_wp2
      go_ret2
      exact ⟨.inl ⟨HN.out, _, rfl, own_lowS own HB.out.size⟩, HB.out.trans (HBW.out.mono HB.out.size)⟩
end Go.Proofs.Ythdcgikhcghigaa
