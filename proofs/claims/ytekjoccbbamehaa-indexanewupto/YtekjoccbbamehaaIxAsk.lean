import Derived.Test.YtekjoccbbamehaaIxBk
namespace Go.Proofs.Ytekjoccbbamehaa
open Go.RowKit Go.Maps Go.ChangeMaps
set_option linter.unusedVariables false
set_option linter.unusedSimpArgs false
attribute [local go_sem ↓] Go.wp_at_zero Go.wp_at_succ
attribute [-go_sem] loadVar storeVar

theorem load_kn {u : World} {bk : Nat} {v : Value} (h : u.cell? ⟨bk, 0, none⟩ = some v) : (loadVar 77 ⟨bk, 0, none⟩).run Try.prog u = .ok (.agg #[v]) u := by
  rw [loadVar.eq_1]
  go_simp
theorem load_mpm {u : World} {a : Addr} {v : Value} (h : u.cell? a = some v) : (loadVar 78 a).run Try.prog u = .ok v u := by rw [loadVar.eq_1]; go_simp
theorem seekM_yes {s : List Mb} (nd : (s.map Mb.v).Nodup) {q : Mb} (hq : q ∈ s) : seekM s q.v = some q := by
  unfold seekM
  induction s with
  | nil => cases hq
  | cons a s ih =>
    rw [List.map_cons, List.nodup_cons] at nd
    rcases List.mem_cons.1 hq with rfl | hq
    · simp
    · have hne : a.v ≠ q.v := fun e => nd.1 (e ▸ List.mem_map.2 ⟨q, hq, rfl⟩)
      rw [List.find?_cons_of_neg (by simpa using hne)]
      exact ih nd.2 hq
theorem lookM_yes {s : List Mb} (nd : (s.map Mb.v).Nodup) {q : Mb} (hq : q ∈ s) : lookM s q.v = .pointer (some ⟨q.b, 0, none⟩) := by
  unfold lookM
  rw [seekM_yes nd hq]
  rfl
theorem lookM_no {s : List Mb} {m : Int} (hm : m ∉ s.map Mb.v) : lookM s m = .pointer none := by
  unfold lookM seekM
  rw [List.find?_eq_none.2 (fun p hp => by simpa using fun e => hm (List.mem_map.2 ⟨p, hp, e⟩))]
theorem mb_v (is : List Ie) : (is.map Ie.mb).map Mb.v = is.map Ie.m := by rw [List.map_map]; rfl
theorem RL.mapM {w : World} {B bk mb tt : Nat} {is : List Ie} (h : Ibk w B bk mb tt is) : (loadVar 78 ⟨bk, 1, none⟩).run Try.prog w = .ok (.map (some mb)) w := load_mpm (RL.at h.rl (j := 1) rfl)
set_option maxHeartbeats 1600000 in
set_option maxRecDepth 100000 in
theorem there_bk {w : World} {B bk mb tt : Nat} {is : List Ie} (h : Ibk w B bk mb tt is) : Calls Try.prog 31 #[.pointer (some ⟨bk, 0, none⟩)] w fun e w' => e = .returned (.bool true) ∧ w' = w := by
  have l1 := RL.mapM h
  have hm : (binOp .neq 78 (.map (some mb)) (.map none)).run Try.prog w = .ok (.bool true) w := by kernel_rfl
  clear h
  go_enter Try.func31, Try.ntmps31
  go_wp2
  go_ret
  exact ⟨rfl, rfl⟩
set_option maxHeartbeats 1600000 in
set_option maxRecDepth 100000 in
/-- a bit that is no column -/
theorem ask_no {w : World} {B bk mb tt : Nat} {is : List Ie} (h : Ibk w B bk mb tt is) {B' mm : Nat} {sv : Value} {rows : List (List Int)} {n : Nat} {gone : Int} (hr : Rel w B' tt mm sv rows (n : Int) gone) (hn : n ≤ 24) {m : Int} (hc : colB m n = false) :
    Calls Try.prog 25 #[.pointer (some ⟨bk, 0, none⟩), .int .u32 m] w fun e w' => e = .returned (.tuple #[.pointer none, .int .i64 110]) ∧ Below w.heap.size w w' := by
  have l1 := load_kn (RL.at h.rl (j := 0) rfl)
  have HT := Lib.hid (there_bk h)
  have HCL := Lib.hid (columns_ix hr hn m)
  rw [hc] at HCL
  clear h hr
  go_enter Try.func25, Try.ntmps25
  go_wp2_with fail
  refine HT.out.mono ?_
  rintro e w1 ⟨rfl, rfl⟩
  go_wp2_with fail
  refine HCL.out.mono ?_
  rintro e w2 ⟨rfl, b2⟩
  go_wp2
  go_ret2
  exact ⟨rfl, b2⟩
/-- what an asking leaves -/
structure Asked (w w' : World) (B bk mb tt : Nat) (is is' : List Ie) (j : Ie) (m : Int) (rows : List (List Int)) (gone : Int) : Prop where
  mem : j ∈ is'
  jm : j.m = m
  jG : j.G = grpN m rows rows.length
  js : j.seen = rows.length
  jg : j.gone = gone
  bo : Ibk w' B bk mb tt is'
  old : ∀ i ∈ is', i = j ∨ i ∈ is
  tx : Tx (BX bk mb is) w w'
  nw : ∀ k, BX bk mb is' k → BX bk mb is k ∨ w.heap.size ≤ k
  ms : is'.map Ie.m = if m ∈ is.map Ie.m then is.map Ie.m else is.map Ie.m ++ [m]
set_option maxHeartbeats 1600000 in
set_option maxRecDepth 100000 in
/-- an index that is there -/
theorem ask_old {w : World} {B bk mb tt : Nat} {is : List Ie} (h : Ibk w B bk mb tt is) (hB : B ≤ w.heap.size) {B' mm : Nat} {sv : Value} {rows : List (List Int)} {n : Nat} {gone : Int} (hr : Rel w B' tt mm sv rows (n : Int) gone) (hn : n ≤ 24) (hG : ∀ i ∈ is, i.gone = gone → i.G = grpN i.m rows i.seen ∧ i.seen ≤ rows.length) (hap : ∀ k, BX bk mb is k → k ≠ tt ∧ k ≠ mm ∧ sv.ownBlock ≠ some k) (hlen : rows.length ≤ 100000000) {m : Int} (hm : (Lit.int .u32 m).wf = true) (hc : colB m n = true) {p : Nat} {i : Ie} (hp : is[p]? = some i) (hi : i.m = m) :
    Calls Try.prog 25 #[.pointer (some ⟨bk, 0, none⟩), .int .u32 m] w fun e w' => ∃ is' j, e = .returned (.tuple #[.pointer (some ⟨j.x, 0, none⟩), .int .i64 0]) ∧ Asked w w' B bk mb tt is is' j m rows gone := by
  have himem := List.mem_of_getElem? hp
  have l1 := load_kn (RL.at h.rl (j := 0) rfl)
  have HT := Lib.hid (there_bk h)
  have HCL := Lib.hid (columns_ix hr hn m)
  rw [hc] at HCL
  have HL : Hid (∀ u, Below w.heap.size w u → (Instr.lookup 78 (.map (some mb)) (.int .u32 m) false).run Try.prog u = .ok (.pointer (some ⟨i.x, 0, none⟩)) u) := fun u hu => by
    have := (h.keep hu).map.look (by rw [mb_v]; exact h.nd) hm
    rw [this, ← hi, show i.m = i.mb.v from rfl, lookM_yes (by rw [mb_v]; exact h.nd) (List.mem_map.2 ⟨i, himem, rfl⟩)]
    rfl
  have HH := Lib.hid h
  have HR := Lib.hid hr
  have HGI := Lib.hid (hG i himem)
  have HAP := Lib.hid hap
  clear h hr hG hap hm
  go_enter Try.func25, Try.ntmps25
  go_wp2_with fail
  refine HT.out.mono ?_
  rintro e w1 ⟨rfl, rfl⟩
  go_wp2_with fail
  refine HCL.out.mono ?_
  rintro e w2 ⟨rfl, b2⟩
  have HB2 := Lib.hid (HH.out.keep b2)
  have l3 := RL.mapM HB2.out
  have l4 := HL.out w2 b2
  have l5 := load_kn (RL.at HB2.out.rl (j := 0) rfl)
  have HB := Lib.hid b2
  clear HT HCL l1 b2 HL
  go_wp2_with fail
  have hsz := HB.out.size
  refine (renew_ix (HB2.out.ix i himem) (by omega) (HR.out.keep HB.out) (fun e => HGI.out e) (fun k hk => HAP.out k (.inr (.inr ⟨i, himem, hk⟩))) hlen).mono ?_
  rintro e w3 ⟨⟨u, rfl⟩, vs', hi3, t3, hw3⟩
  have HF : Hid (∃ is' j, j.x = i.x ∧ Asked w1 w3 B bk mb tt is is' j m rows gone) := by
    have hfx : ∀ k, FX i.x i.b vs' k → i.fx k ∨ w2.heap.size ≤ k := fun k hk => by
      rcases hk with e | e | ⟨v, hv, e⟩
      · exact .inl (.inl e)
      · exact .inl (.inr (.inl e))
      · exact (hw3 v hv k e).imp (fun e => .inr (.inr e)) id
    refine ⟨is.set p ⟨i.m, i.x, i.b, vs', grpN m rows rows.length, rows.length, gone⟩, ⟨i.m, i.x, i.b, vs', grpN m rows rows.length, rows.length, gone⟩, rfl, ⟨List.mem_set (List.getElem?_eq_some_iff.1 hp).1 _, hi, rfl, rfl, rfl, HB2.out.turn hp rfl rfl (by show Ix w3 B i.x i.b i.m (grpN m rows rows.length) vs' rows.length gone; rw [← hi]; exact hi3) t3 hfx, fun a ha => ?_, ?_, fun k hk => ?_, ?_⟩⟩
    · rcases List.mem_or_eq_of_mem_set ha with ha | ha
      · exact .inr ha
      · exact .inl ha
    · exact (Tx.of_below (ex := BX bk mb is) HB.out).trans t3 (fun k _ e => .inr (.inr ⟨i, himem, e⟩))
    · rcases hk with e | e | ⟨a, ha, e⟩
      · exact .inl (.inl e)
      · exact .inl (.inr (.inl e))
      · rcases List.mem_or_eq_of_mem_set ha with ha | rfl
        · exact .inl (.inr (.inr ⟨a, ha, e⟩))
        · rcases hfx k e with e | e
          · exact .inl (.inr (.inr ⟨i, himem, e⟩))
          · exact .inr (by omega)
    · rw [if_pos (hi ▸ List.mem_map.2 ⟨i, himem, rfl⟩), List.map_set]
      apply List.ext_getElem?
      intro q
      rw [List.getElem?_set]
      split
      · rename_i e
        subst e
        rw [if_pos (by simpa using (List.getElem?_eq_some_iff.1 hp).1), List.getElem?_map, hp]
        rfl
      · rfl
  clear HB2 HB l3 l4 l5 HGI HAP HR HH hi3 t3 hw3 hsz
  obtain ⟨is', j, hjx, hA⟩ := HF.out
  have HA := Lib.hid hA
  rw [← hjx]
  clear hA HF hjx
  go_wp2
  go_ret2
  exact ⟨is', j, rfl, HA.out⟩
end Go.Proofs.Ytekjoccbbamehaa
