import Derived.Test.YteabclfhmapabaaDoorA14
section
namespace Go.Proofs.YteabclfhmapabaaDoor
open Go.RowKit Go.Maps
set_option linter.unusedVariables false
set_option linter.unusedSimpArgs false
attribute [local go_sem ↓] Go.wp_at_zero Go.wp_at_succ
attribute [-go_sem] Builtin.append_

/-- the method value f.solve -/
def solveF (bf : Nat) : Value := .func (.func 65) #[.pointer (some ⟨bf, 0, none⟩)] #[]
/-- amid a round -/
structure Rs (B bf bm bw g cap : Nat) (vs : List Vb) (w0 : World) (fs0 : List ByteArray) (sv0 : Value) (L0 : List Er) (k : Nat) (fs : List ByteArray) (sv : Value) (ks rest : List Er) (w : World) : Prop where
  fd : Fd B bf bm vs fs sv w
  eq : Eqs bf bm vs fs sv w (ks ++ rest)
  rr : Rr B g cap (L0.map Er.be) (ks.map Er.be) w k
  rw : RL w bw 147 [.slice (some ⟨g, 0, none⟩) L0.length cap]
  rs : rest.map Er.be = (L0.map Er.be).drop k
  pr : progR (L0.map Er.q) fs0 = ((progR (rest.map Er.q) fs).1, ks.map Er.q ++ (progR (rest.map Er.q) fs).2)
  wa : ∀ j, j = bw ∨ j = g → ¬ FP bf bm vs sv j ∧ ∀ r ∈ ks ++ rest, ¬ EP r j
  ne : g ≠ bw
  tz : Tz (fun j => FP bf bm vs sv0 j ∨ j = bw ∨ j = g ∨ ∃ r ∈ L0, j = r.be) w0 w
  nw : ∀ j, sv.ownBlock = some j → sv0.ownBlock = some j ∨ w0.heap.size ≤ j
  ln : fs.length + (ks.length + rest.length) = fs0.length + L0.length
  sb : ∀ r ∈ ks ++ rest, ∃ r0 ∈ L0, r.be = r0.be
theorem drop_cons {α : Type} {l m : List α} {x : α} {k : Nat} (h : x :: m = l.drop k) : k < l.length ∧ l[k]? = some x ∧ m = l.drop (k + 1) := by
  have hlt : k < l.length := by
    have := congrArg List.length h
    rw [List.length_cons, List.length_drop] at this
    omega
  rw [List.drop_eq_getElem_cons hlt] at h
  injection h with h1 h2
  exact ⟨hlt, by rw [List.getElem?_eq_getElem hlt, h1], h2⟩
/-- the one that is looked at now -/
theorem Rs.next {B bf bm bw g cap : Nat} {vs : List Vb} {w0 : World} {fs0 : List ByteArray} {sv0 : Value} {L0 : List Er} {k : Nat} {fs : List ByteArray} {sv : Value} {ks rest : List Er} {w : World} (h : Rs B bf bm bw g cap vs w0 fs0 sv0 L0 k fs sv ks rest w) (hk : k < L0.length) :
    ∃ r rest', rest = r :: rest' ∧ w.cell? ⟨g, k, none⟩ = some (.pointer (some ⟨r.be, 0, none⟩)) ∧ EqIs bf bm vs fs sv w r := by
  have hl : k < (L0.map Er.be).length := by simpa using hk
  cases rest with
  | nil =>
    have := congrArg List.length h.rs
    rw [List.length_drop] at this
    simp at this
    omega
  | cons r rest' =>
    obtain ⟨_, h1, _⟩ := drop_cons (x := r.be) (m := rest'.map Er.be) (by rw [← h.rs]; rfl)
    refine ⟨r, rest', rfl, ?_, h.eq.is r (List.mem_append.2 (.inr List.mem_cons_self))⟩
    have := h.rr.cell hl
    rw [List.getD_eq_getElem?_getD, h1] at this
    exact this
/-- behind solve -/
theorem Rs.solved {B bf bm bw g cap : Nat} {vs : List Vb} {w0 : World} {fs0 : List ByteArray} {sv0 : Value} {L0 : List Er} {k : Nat} {fs : List ByteArray} {sv : Value} {ks rest : List Er} {r : Er} {w w' : World} (h : Rs B bf bm bw g cap vs w0 fs0 sv0 L0 k fs sv ks (r :: rest) w) (hg : GvP B bf bm vs fs sv r (gaveO fs r.q) w w') :
    ∃ r' sv', r'.be = r.be ∧ r'.q = r.q ∧ Fd B bf bm vs (fs ++ (gaveO fs r.q).toList) sv' w' ∧ Eqs bf bm vs (fs ++ (gaveO fs r.q).toList) sv' w' (ks ++ r' :: rest) ∧ Rr B g cap (L0.map Er.be) (ks.map Er.be) w' k ∧ RL w' bw 147 [.slice (some ⟨g, 0, none⟩) L0.length cap] ∧
      (∀ j, j = bw ∨ j = g → ¬ FP bf bm vs sv' j ∧ ∀ x ∈ ks ++ r' :: rest, ¬ EP x j) ∧ Tz (fun j => FP bf bm vs sv0 j ∨ j = bw ∨ j = g ∨ ∃ r ∈ L0, j = r.be) w0 w' ∧ (∀ j, sv'.ownBlock = some j → sv0.ownBlock = some j ∨ w0.heap.size ≤ j) := by
  obtain ⟨r', sv', h1, h2, h3, h4, h5, h6, h7⟩ := h.eq.step h.fd hg
  have hin : r ∈ ks ++ r :: rest := List.mem_append.2 (.inr List.mem_cons_self)
  have hbw : bw < w.heap.size := World.rowIs.lt h.rw
  have hgl : g < w.heap.size := h.rr.lt
  have hkp : ∀ j, j = bw ∨ j = g → w'.heap[j]? = w.heap[j]? := fun j hj => by
    refine h6.block j (by rcases hj with rfl | rfl <;> assumption) ?_
    rintro (e | e)
    · exact (h.wa j hj).1 e
    · exact (h.wa j hj).2 r hin (.inl e)
  refine ⟨r', sv', h1, h2, h4, h5, h.rr.of_block (hkp g (.inr rfl)), World.rowIs.of_block h.rw (hkp bw (.inl rfl)), fun j hj => ⟨?_, fun x hx e => ?_⟩, h.tz.trans h6 ?_, fun j hj => ?_⟩
  · exact fp_new h.fd h7 j (by rcases hj with rfl | rfl <;> assumption) (h.wa j hj).1
  · rcases List.mem_append.1 hx with hx | hx
    · exact (h.wa j hj).2 x (List.mem_append.2 (.inl hx)) e
    · rcases List.mem_cons.1 hx with rfl | hx
      · exact (h.wa j hj).2 r hin (h3 j e)
      · exact (h.wa j hj).2 x (List.mem_append.2 (.inr (List.mem_cons_of_mem _ hx))) e
  · rintro b hb (e | e)
    · rcases e with e | e | e | e
      · exact .inl (.inl e)
      · exact .inl (.inr (.inl e))
      · rcases h.nw b e with k | k
        · exact .inl (.inr (.inr (.inl k)))
        · omega
      · exact .inl (.inr (.inr (.inr e)))
    · have : r.be ∈ (L0.map Er.be).drop k := by rw [← h.rs]; exact List.mem_cons_self
      obtain ⟨r0, hr0, e0⟩ := List.mem_map.1 (List.mem_of_mem_drop this)
      exact .inr (.inr (.inr ⟨r0, hr0, by rw [e, e0]⟩))
  · rcases h7 j hj with e | e
    · exact h.nw j e
    · exact .inr (Nat.le_trans h.tz.size e)
/-- it gave something: it is let go -/
theorem Rs.gone {B bf bm bw g cap : Nat} {vs : List Vb} {w0 : World} {fs0 : List ByteArray} {sv0 : Value} {L0 : List Er} {k : Nat} {fs : List ByteArray} {sv : Value} {ks rest : List Er} {r : Er} {w w' : World} {v : ByteArray} (h : Rs B bf bm bw g cap vs w0 fs0 sv0 L0 k fs sv ks (r :: rest) w) (hv : gaveO fs r.q = some v) (hg : GvP B bf bm vs fs sv r (some v) w w') :
    ∃ sv', Rs B bf bm bw g cap vs w0 fs0 sv0 L0 (k + 1) (fs ++ [v]) sv' ks rest w' := by
  rw [← hv] at hg
  obtain ⟨r', sv', h1, h2, h3, h4, h5, h6, h7, h8, h9⟩ := h.solved hg
  rw [hv] at h3 h4
  obtain ⟨hk, _, hd⟩ := drop_cons (x := r.be) (m := rest.map Er.be) (by rw [← h.rs]; rfl)
  have hsub : (ks ++ rest).Sublist (ks ++ r' :: rest) := (List.Sublist.refl ks).append (List.sublist_cons_self r' rest)
  refine ⟨sv', h3, h4.sub hsub, h5.skip hk, h6, hd, ?_, fun j hj => ⟨(h7 j hj).1, fun x hx => (h7 j hj).2 x (hsub.subset hx)⟩, h.ne, h8, h9, ?_, fun x hx => h.sb x (by
    rcases List.mem_append.1 hx with hx | hx
    · exact List.mem_append.2 (.inl hx)
    · exact List.mem_append.2 (.inr (List.mem_cons_of_mem _ hx)))⟩
  · have := h.pr
    rw [List.map_cons, progR, hv] at this
    exact this
  · have := h.ln
    rw [List.length_cons] at this
    rw [List.length_append, List.length_singleton]
    omega
/-- it gave nothing: it is kept -/
theorem Rs.kept {B bf bm bw g cap : Nat} {vs : List Vb} {w0 : World} {fs0 : List ByteArray} {sv0 : Value} {L0 : List Er} {k : Nat} {fs : List ByteArray} {sv : Value} {ks rest : List Er} {r : Er} {w w' : World} (h : Rs B bf bm bw g cap vs w0 fs0 sv0 L0 k fs sv ks (r :: rest) w) (hv : gaveO fs r.q = none) (hg : GvP B bf bm vs fs sv r none w w') (hB : B ≤ w0.heap.size)
    (i0 : TypeInfo) (hi : Tryd.prog.info? 149 = some i0) (hs : i0.size = 1) :
    ∃ r' sv' w2, (Builtin.append_ #[145, 145] 145 #[.slice (some ⟨g, 0, none⟩) ks.length cap, .slice (some ⟨w'.heap.size, 0, none⟩) 1 1]).run Tryd.prog (w'.alloc (.cells #[.pointer (some ⟨r.be, 0, none⟩)] 149)) = .ok (.slice (some ⟨g, 0, none⟩) (ks.length + 1) cap) w2 ∧ Rs B bf bm bw g cap vs w0 fs0 sv0 L0 (k + 1) fs sv' (ks ++ [r']) rest w2 := by
  rw [← hv] at hg
  obtain ⟨r', sv', h1, h2, h3, h4, h5, h6, h7, h8, h9⟩ := h.solved hg
  rw [hv] at h3 h4
  simp only [Option.toList_none, List.append_nil] at h3 h4
  obtain ⟨hk, _, hd⟩ := drop_cons (x := r.be) (m := rest.map Er.be) (by rw [← h.rs]; rfl)
  have hA := belowA (w := w') (.cells #[.pointer (some ⟨r.be, 0, none⟩)] 149)
  have hAs : (w'.alloc (.cells #[.pointer (some ⟨r.be, 0, none⟩)] 149)).heap.size = w'.heap.size + 1 := by simp
  obtain ⟨w2, hrun, hrr, ht, hz⟩ := (h5.of_block (hA.block g h5.lt)).push hk (b := r.be) (a := w'.heap.size) (lit_news w' #[.pointer (some ⟨r.be, 0, none⟩)] 149 0 _ rfl) i0 hi hs 1
  rw [List.length_map] at hrun
  have hkp : ∀ j, j < w'.heap.size → j ≠ g → w2.heap[j]? = w'.heap[j]? := fun j hj hne => (ht.block j (by omega) hne).trans (hA.block j hj)
  have hfs : ∀ j, FP bf bm vs sv' j → w2.heap[j]? = w'.heap[j]? := fun j hj => hkp j (h3.lt j hj) (fun e => (h7 g (.inr rfl)).1 (e ▸ hj))
  have hes : ∀ x ∈ ks ++ r' :: rest, ∀ j, EP x j → w2.heap[j]? = w'.heap[j]? := fun x hx j hj => hkp j ((h4.is x hx).lt j hj).1 (fun e => (h7 g (.inr rfl)).2 x hx (e ▸ hj))
  have hbw : bw < w'.heap.size := World.rowIs.lt h6
  have e1 : ks ++ r' :: rest = (ks ++ [r']) ++ rest := by simp
  have hw2 : w'.heap.size ≤ w2.heap.size := by omega
  refine ⟨r', sv', w2, hrun 145, h3.keep hfs, ?_, ?_, World.rowIs.of_block h6 (hkp bw hbw (Ne.symm h.ne)), hd, ?_, fun j hj => ⟨(h7 j hj).1, fun x hx => (h7 j hj).2 x (by rw [e1]; exact hx)⟩, h.ne, ?_, h9, ?_, fun x hx => ?_⟩
  · rw [← e1]
    exact h4.keep hw2 hes (fun n hn => hn) (fun x hx => hx) (fun j _ hj => hj)
  · rw [List.map_append, List.map_cons, List.map_nil, h1]
    exact hrr
  · have := h.pr
    rw [List.map_cons, progR, hv] at this
    rw [this, List.map_append, List.map_cons, List.map_nil, h2, List.append_assoc]
    rfl
  · refine h8.trans (ex' := fun j => j = g) ⟨ht.os.trans hA.os, ht.tape.trans hA.tape, ht.output.trans hA.output, hw2, fun j hj hne => hkp j hj hne⟩ (fun b _ e => .inr (.inr (.inl e)))
  · have := h.ln
    rw [List.length_cons] at this
    rw [List.length_append, List.length_singleton]
    omega
  · rw [← e1] at hx
    rcases List.mem_append.1 hx with hx | hx
    · exact h.sb x (List.mem_append.2 (.inl hx))
    · rcases List.mem_cons.1 hx with rfl | hx
      · rw [h1]
        exact h.sb r (List.mem_append.2 (.inr List.mem_cons_self))
      · exact h.sb x (List.mem_append.2 (.inr (List.mem_cons_of_mem _ hx)))
/-- what a round leaves -/
def RnP (B bf bm bw : Nat) (vs : List Vb) (fs0 : List ByteArray) (sv0 svw0 : Value) (L0 : List Er) (w0 : World) (e : Ending) (w : World) : Prop :=
  ∃ sv svw L, e = .returned (.bool (decide (L.length < L0.length))) ∧ Fd B bf bm vs (progR (L0.map Er.q) fs0).1 sv w ∧ Eqs bf bm vs (progR (L0.map Er.q) fs0).1 sv w L ∧ L.map Er.q = (progR (L0.map Er.q) fs0).2 ∧ Wk B bw (L.map Er.be) svw w ∧ (∀ j, WP bw svw j → ¬ FP bf bm vs sv j ∧ ∀ r ∈ L, ¬ EP r j) ∧
    Tz (fun j => FP bf bm vs sv0 j ∨ WP bw svw0 j ∨ ∃ r ∈ L0, j = r.be) w0 w ∧ (∀ j, sv.ownBlock = some j → sv0.ownBlock = some j ∨ w0.heap.size ≤ j) ∧ (progR (L0.map Er.q) fs0).1.length + L.length = fs0.length + L0.length ∧ ∀ r ∈ L, ∃ r0 ∈ L0, r.be = r0.be
/-- the end of a round -/
theorem Rs.fin {B bf bm bw g cap : Nat} {vs : List Vb} {w0 : World} {fs0 : List ByteArray} {sv0 : Value} {L0 : List Er} {k : Nat} {fs : List ByteArray} {sv : Value} {ks rest : List Er} {w : World} (h : Rs B bf bm bw g cap vs w0 fs0 sv0 L0 k fs sv ks rest w) (hk : k = L0.length) :
    RnP B bf bm bw vs fs0 sv0 (.slice (some ⟨g, 0, none⟩) L0.length cap) L0 w0 (.returned (.bool (decide (ks.length < L0.length)))) (w.setCell ⟨bw, 0, none⟩ (.slice (some ⟨g, 0, none⟩) ks.length cap)) := by
  have hr : rest = [] := by
    have := congrArg List.length h.rs
    rw [List.length_drop, List.length_map, List.length_map] at this
    exact List.length_eq_zero_iff.1 (by omega)
  subst hr
  have hpr : progR (L0.map Er.q) fs0 = (fs, ks.map Er.q) := by
    have := h.pr
    rw [List.map_nil, progR, List.append_nil] at this
    exact this
  have heq := h.eq
  rw [List.append_nil] at heq
  have hwa : ∀ j, j = bw ∨ j = g → ¬ FP bf bm vs sv j ∧ ∀ r ∈ ks, ¬ EP r j := fun j hj => ⟨(h.wa j hj).1, fun r hr => (h.wa j hj).2 r (List.mem_append.2 (.inl hr))⟩
  have hkp : ∀ j, j ≠ bw → (w.setCell ⟨bw, 0, none⟩ (.slice (some ⟨g, 0, none⟩) ks.length cap)).heap[j]? = w.heap[j]? := fun j hj => heap_setCell_other _ _ _ _ (by show j ≠ bw; exact hj)
  have hz : (w.setCell ⟨bw, 0, none⟩ (.slice (some ⟨g, 0, none⟩) ks.length cap)).heap.size = w.heap.size := by simp
  refine ⟨sv, .slice (some ⟨g, 0, none⟩) ks.length cap, ks, rfl, ?_, ?_, ?_, ⟨h.rw.set 0 _, ?_, ?_⟩, ?_, ?_, h.nw, ?_, fun r hr => h.sb r (List.mem_append.2 (.inl hr))⟩
  · rw [hpr]
    exact h.fd.keep (fun j hj => hkp j (fun e => (hwa bw (.inl rfl)).1 (e ▸ hj)))
  · rw [hpr]
    exact heq.keep (by omega) (fun r hr j hj => hkp j (fun e => (hwa bw (.inl rfl)).2 r hr (e ▸ hj))) (fun n hn => hn) (fun x hx => hx) (fun j _ hj => hj)
  · rw [hpr]
  · have := h.rr.done
    rw [List.length_map] at this ⊢
    exact own_of_block this (fun j hj => hkp j (by
      have : g = j := by simpa [Value.ownBlock] using hj
      rw [← this]
      exact h.ne))
  · intro j hj
    have : g = j := by simpa [Value.ownBlock] using hj
    rw [← this]
    exact h.ne
  · rintro j (e | e)
    · exact hwa j (.inl e)
    · exact hwa j (.inr (by simpa [Value.ownBlock] using e.symm))
  · have ht := h.tz
    refine ⟨ht.os, ht.tape, ht.output, by rw [hz]; exact ht.size, fun j hj he => ?_⟩
    rw [hkp j (fun e => he (.inr (.inl (.inl e))))]
    refine ht.block j hj ?_
    rintro (e | e | e | e)
    · exact he (.inl e)
    · exact he (.inr (.inl (.inl e)))
    · exact he (.inr (.inl (.inr (by rw [e]; rfl))))
    · exact he (.inr (.inr e))
  · rw [hpr]
    have := h.ln
    simp only [List.length_nil, Nat.add_zero] at this
    exact this
set_option maxHeartbeats 3200000 in
theorem round_any {B bf bm bw : Nat} {vs : List Vb} {fs : List ByteArray} {sv svw : Value} {L : List Er} {w : World} (hf : Fd B bf bm vs fs sv w) (he : Eqs bf bm vs fs sv w L) (hw : Wk B bw (L.map Er.be) svw w) (ha : ∀ j, WP bw svw j → ¬ FP bf bm vs sv j ∧ ∀ r ∈ L, ¬ EP r j) (hB : B ≤ w.heap.size) (hl : fs.length + L.length ≤ 1000000000) :
    Calls Tryd.prog 64 #[.pointer (some ⟨bw, 0, none⟩), solveF bf] w fun e w' => RnP B bf bm bw vs fs sv svw L w e w' := by
  obtain ⟨i0, hi0, hz0, hz1, hz2⟩ := info_parts infoPEq
  have hml : (L.map Er.be).length = L.length := List.length_map _
  obtain ⟨sa, sc, rfl, hsc⟩ := own_form hw.own
  rw [hml] at hw ha hsc ⊢
  have c0 := hw.r.at (j := 0) rfl
  have f0 := World.rowIs.frozen hw.r 0
  rcases Nat.eq_zero_or_pos L.length with h0 | h0
  · have hL : L = [] := List.length_eq_zero_iff.1 h0
    subst hL
    have HH : Hid (RnP B bf bm bw vs fs sv (.slice sa 0 sc) [] w (.returned (.bool false)) (w.setCell ⟨bw, 0, none⟩ (.slice sa 0 sc))) := by
      have hkp : ∀ j, j ≠ bw → (w.setCell ⟨bw, 0, none⟩ (.slice sa 0 sc)).heap[j]? = w.heap[j]? := fun j hj => heap_setCell_other _ _ _ _ (by show j ≠ bw; exact hj)
      refine ⟨sv, .slice sa 0 sc, [], rfl, hf.keep (fun j hj => hkp j (fun e => (ha bw (.inl rfl)).1 (e ▸ hj))), ⟨fun r hr => (by cases hr), by simp, fun r hr => (by cases hr)⟩, rfl, ⟨hw.r.set 0 _, own_of_block hw.own (fun j hj => hkp j (hw.ap j hj)), hw.ap⟩, fun j hj => ⟨(ha j hj).1, fun r hr => (by cases hr)⟩, ⟨rfl, rfl, rfl, by simp, fun j _ hj => hkp j (fun e => hj (.inr (.inl (.inl e))))⟩, fun j hj => .inl hj, rfl, fun r hr => (by cases hr)⟩
    simp only [List.length_nil] at c0 hsc ⊢
    clear hf he hw ha hml h0
    unfold solveF
    go_enter Tryd.func64, Tryd.ntmps64
    go_wp2
    go_loopw [5, 19] (fun v i wr => v = .slice sa 0 sc ∧ i = .int .i64 0 ∧ wr = w) (fun _ _ _ => 0)
    case atStart => exact ⟨rfl, rfl, rfl⟩
    case round =>
      obtain ⟨rfl, rfl, rfl⟩ := hrel
      go_wp2
      go_ret
      exact HH.out
  · obtain ⟨g, rfl⟩ : ∃ g, sa = some ⟨g, 0, none⟩ := by
      obtain ⟨_, ⟨h1, _⟩ | ⟨g, cap, cur, h1, _⟩⟩ := hw.own
      · injection h1 with _ h2 _
        omega
      · injection h1 with h1 _ _
        exact ⟨g, h1⟩
    have hwo := hw.own
    have HS0 : Hid (Rs B bf bm bw g sc vs w fs sv L 0 fs sv [] L w) := ⟨hf, he, Rr.start (by rw [hml] at hwo ⊢; exact hwo), hw.r, by simp, by simp, fun j hj => ha j (by
      rcases hj with rfl | rfl
      · exact .inl rfl
      · exact .inr rfl), hw.ap g rfl, Tz.refl _ _, fun j hj => .inl hj, by simp, fun r hr => ⟨r, hr, rfl⟩⟩
    have hLs : L.length ≤ 1000000000 := by omega
    clear hf he hw ha hml hwo
    unfold solveF
    go_enter Tryd.func64, Tryd.ntmps64
    go_wp2
    go_loopw [5, 19] (fun v i wr => ∃ (k : Nat) (fs' : List ByteArray) (sv' : Value) (ks rest : List Er), k ≤ L.length ∧ i = .int .i64 k ∧ v = .slice (some ⟨g, 0, none⟩) ks.length sc ∧ Hid (Rs B bf bm bw g sc vs w fs sv L k fs' sv' ks rest wr)) (fun _ i _ => L.length - (intOf i).toNat)
    case atStart => exact ⟨0, fs, sv, [], L, Nat.zero_le _, rfl, rfl, HS0⟩
    case round =>
      clear HS0 c0 f0
      obtain ⟨k, fs', sv', ks, rest, hk, rfl, rfl, HS⟩ := hrel
      by_cases hlt : k < L.length
      · have hlt' : (k : Int) < (L.length : Int) := by omega
        have hk0 : (0 : Int) ≤ (k : Int) := by omega
        obtain ⟨r, rest', rfl, x0, hr⟩ := HS.out.next hlt
        have hlr : fs'.length ≤ 1000000000 := by have := HS.out.ln; omega
        have HC := Lib.hid (solve_any HS.out.fd (Nat.le_trans hB HS.out.tz.size) r hr hlr)
        cases hv : gaveO fs' r.q with
        | some v =>
          rw [hv] at HC
          have HV := Lib.hid hv
          clear hv hr hlr
          go_wp2_with fail
          refine HC.out.mono ?_
          rintro e w1 ⟨rfl, hg⟩
          obtain ⟨sv2, hs2⟩ := HS.out.gone HV.out hg
          have HS2 := Lib.hid hs2
          clear hs2 hg HC HS x0
          go_wp2
          go_roundw
          case rel => exact ⟨k + 1, _, sv2, ks, rest', by omega, by go_num, rfl, HS2⟩
          case measure => simp [intOf]; omega
        | none =>
          rw [hv] at HC
          have HV := Lib.hid hv
          clear hv hr hlr
          go_wp2_with fail
          refine HC.out.mono ?_
          rintro e w1 ⟨rfl, hg⟩
          obtain ⟨r', sv2, w2, hrun, hs2⟩ := HS.out.kept HV.out hg hB i0 hi0 hz1
          have HS2 := Lib.hid hs2
          clear hs2 hg HC HS x0
          go_wp2
          go_roundw
          case rel => exact ⟨k + 1, _, sv2, ks ++ [r'], rest', by omega, by go_num, by simp, HS2⟩
          case measure => simp [intOf]; omega
      · obtain rfl : k = L.length := by omega
        have q0 := HS.out.rw.at (j := 0) rfl
        have q1 := World.rowIs.frozen HS.out.rw 0
        have HF := Lib.hid (HS.out.fin rfl)
        clear HS
        go_wp2
        go_ret
        first
          | exact HF.out
          | (have := HF.out; simpa using this)
end Go.Proofs.YteabclfhmapabaaDoor
end
section
namespace Go.Proofs.YteabclfhmapabaaDoor
open Go.RowKit Go.Maps
set_option linter.unusedVariables false
set_option linter.unusedSimpArgs false

theorem wpOp_valG {P : Program} {ops : Array Oper} {Q : Exit → Act → World → Prop} {K : Act → World → Prop} {i : Nat} {a : Act} {w w' : World} {o : Oper} {v : Value} (hi : ops[i]? = some o) (hw : Region.wanted o (yielded ops a.tmps) = true) (hrun : (execOp a.eval o).run P w = .ok (.value v) w') (hK : K (a.put o.dst v) w') : wpOp P ops Q i K a w := by
  unfold wpOp
  rw [hi]
  simp only [hw, if_true]
  refine Or.inl ?_
  unfold Oper.wp
  rw [hrun]
  exact hK
theorem run_fldL3 (ev : Operand → Value) (o : Oper) {x : Operand} (hop : o.op = .fieldAddr 56 x 3) (w : World) {be : Nat} (hx : ev x = .pointer (some ⟨be, 0, none⟩)) : (execOp ev o).run Tryd.prog w = .ok (.value (.pointer (some ⟨be, 4, none⟩))) w := by
  simp only [execOp, hop, hx]
  go_simp
theorem run_fldL4 (ev : Operand → Value) (o : Oper) {x : Operand} (hop : o.op = .fieldAddr 56 x 4) (w : World) {be : Nat} (hx : ev x = .pointer (some ⟨be, 0, none⟩)) : (execOp ev o).run Tryd.prog w = .ok (.value (.pointer (some ⟨be, 10, none⟩))) w := by
  simp only [execOp, hop, hx]
  go_simp
theorem run_buildE (ev : Operand → Value) (o : Oper) {x y : Operand} (hop : o.op = .build 155 #[(0, x), (1, y)]) (w : World) {o1 o2 a1 a2 : Option Addr} {n1 n2 c1 c2 : Nat} (hx : ev x = .agg #[.pointer o1, .slice a1 n1 c1]) (hy : ev y = .agg #[.pointer o2, .slice a2 n2 c2]) : (execOp ev o).run Tryd.prog w = .ok (.value (.agg #[.pointer o1, .slice a1 n1 c1, .pointer o2, .slice a2 n2 c2])) w := by
  simp only [execOp, hop]
  simp only [List.map_toArray, List.map_cons, List.map_nil, Array.map, hx, hy]
  go_simp
theorem run_boxE (ev : Operand → Value) (o : Oper) {x : Operand} (hop : o.op = .box 155 x) (w : World) {o1 o2 a1 a2 : Option Addr} {n1 n2 c1 c2 : Nat} (hx : ev x = .agg #[.pointer o1, .slice a1 n1 c1, .pointer o2, .slice a2 n2 c2]) : (execOp ev o).run Tryd.prog w = .ok (.value (.pointer (some ⟨w.heap.size, 0, none⟩))) (w.alloc (.cells #[.pointer o1, .slice a1 n1 c1, .pointer o2, .slice a2 n2 c2] 155)) := by
  simp only [execOp, hop, hx]
  go_simp
def lmreg12_takes : List (List Nat × Nat) := [([], 0), ([0], 1), ([0, 1], 2), ([0, 1, 2], 4), ([0, 1, 2, 4], 5), ([0, 1, 2, 4, 5], 6), ([0, 1, 2, 4, 5, 6, 3, 7], 8)]
set_option maxHeartbeats 3200000 in
theorem lmreg12 {ops : Array Oper} {Q : Exit → Act → World → Prop} {S : World → Prop} {a0 : Act} {w5 : World} {bf bw lb : Nat} {EL ER : Value} {ty1 ty2 ty3 : Array TypeId} {P : World → Prop}
    (q0 : isOpG ops 0 none (.move (.tmp 3)) (some 39))
    (q1 : isOpG ops 1 none (.fieldAddr 56 (.tmp 8) 3) (some 40))
    (q2 : isOpG ops 2 none (.load 54 (.tmp 40)) (some 41))
    (q4 : isOpG ops 4 none (.move (.tmp 3)) (some 43))
    (q5 : isOpG ops 5 none (.fieldAddr 56 (.tmp 8) 4) (some 44))
    (q6 : isOpG ops 6 none (.load 54 (.tmp 44)) (some 45))
    (q3 : isOpG ops 3 none (.call { callee := .value (.func 63), args := #[.tmp 39, .tmp 41], argTypes := ty1 }) (some 42))
    (q7 : isOpG ops 7 none (.call { callee := .value (.func 63), args := #[.tmp 43, .tmp 45], argTypes := ty2 }) (some 46))
    (q8 : isOpG ops 8 none (.build 155 #[(0, .tmp 42), (1, .tmp 46)]) (some 47))
    (q9 : isOpG ops 9 none (.box 155 (.tmp 47)) (some 48))
    (q10 : isOpG ops 10 none (.call { callee := .value (.func 62), args := #[.tmp 6, .tmp 48], argTypes := ty3 }) (some 49))
    (hs : Region.noSelect ops = true) (hq : (lmreg12_takes.all fun p => Region.free .any ops (LR 11 p.1) p.2 && (Region.ready .any ops (LR 11 p.1)).contains p.2) = true)
    (r3 : Region.ready .any ops (LR 11 [0, 1, 2, 4, 5, 6]) = [3])
    (r7 : Region.ready .any ops (LR 11 [0, 1, 2, 4, 5, 6, 3]) = [7])
    (r9 : Region.ready .any ops (LR 11 [0, 1, 2, 4, 5, 6, 3, 7, 8]) = [9])
    (r10 : Region.ready .any ops (LR 11 [0, 1, 2, 4, 5, 6, 3, 7, 8, 9]) = [10])
    (rend : Region.ready .any ops (LR 11 [0, 1, 2, 4, 5, 6, 3, 7, 8, 9, 10]) = [])
    (hQ : ∀ (d : Option Tmp) (v : Value) c a w, Q (.panic c) (a.put d v) w → Q (.panic c) a w)
    (hsz : 49 < a0.tmps.size) (e3 : a0.eval (.tmp 3) = .pointer (some ⟨bf, 0, none⟩)) (e6 : a0.eval (.tmp 6) = .pointer (some ⟨bw, 0, none⟩)) (e8 : a0.eval (.tmp 8) = .pointer (some ⟨lb, 0, none⟩))
    (hS0 : S w5.drew)
    (keep : ∀ u u', S u → S u' → S u') (LL : ∀ u, S u → (loadVar 54 ⟨lb, 4, none⟩).run Tryd.prog u = .ok EL u) (LR0 : ∀ u, S u → (loadVar 54 ⟨lb, 10, none⟩).run Tryd.prog u = .ok ER u)
    (C1 : Calls Tryd.prog 63 #[.pointer (some ⟨bf, 0, none⟩), EL] w5.drew fun e u1 => ∃ o1 a1 n1 c1, e = .returned (.agg #[.pointer o1, .slice a1 n1 c1]) ∧ S u1 ∧ Calls Tryd.prog 63 #[.pointer (some ⟨bf, 0, none⟩), ER] u1 fun e u2 => ∃ o2 a2 n2 c2, e = .returned (.agg #[.pointer o2, .slice a2 n2 c2]) ∧ S u2 ∧ S (u2.alloc (.cells #[.pointer o1, .slice a1 n1 c1, .pointer o2, .slice a2 n2 c2] 155)) ∧ Calls Tryd.prog 62 #[.pointer (some ⟨bw, 0, none⟩), .pointer (some ⟨u2.heap.size, 0, none⟩)] (u2.alloc (.cells #[.pointer o1, .slice a1 n1 c1, .pointer o2, .slice a2 n2 c2] 155)) fun e u3 => ∃ v3, e = .returned v3 ∧ S u3 ∧ P u3)
    (F : ∀ (wc u2 : World) (o1 o2 a1 a2 : Option Addr) (n1 n2 c1 c2 : Nat) (v3 : Value), P wc → Q .normal (((((((((((a0.put (some 39) (.pointer (some ⟨bf, 0, none⟩))).put (some 40) (.pointer (some ⟨lb, 4, none⟩))).put (some 41) (EL)).put (some 43) (.pointer (some ⟨bf, 0, none⟩))).put (some 44) (.pointer (some ⟨lb, 10, none⟩))).put (some 45) (ER)).put (some 42) (.agg #[.pointer o1, .slice a1 n1 c1])).put (some 46) (.agg #[.pointer o2, .slice a2 n2 c2])).put (some 47) (.agg #[.pointer o1, .slice a1 n1 c1, .pointer o2, .slice a2 n2 c2])).put (some 48) (.pointer (some ⟨u2.heap.size, 0, none⟩))).put (some 49) (v3)) wc) :
    wpAnyH Tryd.prog .any ops Q S 11 (LR 11 []) a0 w5.drew := by
  have hall : ∀ p ∈ lmreg12_takes, Region.free .any ops (LR 11 p.1) p.2 = true ∧ (Region.ready .any ops (LR 11 p.1)).contains p.2 = true := by
    intro p hp
    have := List.all_eq_true.1 hq p hp
    simpa using this
  unfold lmreg12_takes at hall
  obtain ⟨o0, ho, hg, hop, hd⟩ := isOpG_out q0
  have hfr := hall ([], 0) (by simp)
  refine wpAnyH_take (listed := LR 11 []) (v := .pointer (some ⟨bf, 0, none⟩)) ho hs hfr.1 hfr.2 (hQ _ _) (Or.inl ⟨(wantedN hg), fun w' hS => run_move _ _ hop w' (by (repeat rw [eval_far _ _ (by decide)]); exact e3)⟩) hS0 ?_
  rw [hd, ← LR_snoc]
  clear ho hg hop hd hfr
  obtain ⟨o1, ho, hg, hop, hd⟩ := isOpG_out q1
  have hfr := hall ([0], 1) (by simp)
  refine wpAnyH_take (listed := LR 11 [0]) (v := .pointer (some ⟨lb, 4, none⟩)) ho hs hfr.1 hfr.2 (hQ _ _) (Or.inl ⟨(wantedN hg), fun w' hS => run_fldL3 _ _ hop w' (by (repeat rw [eval_far _ _ (by decide)]); exact e8)⟩) hS0 ?_
  rw [hd, ← LR_snoc]
  clear ho hg hop hd hfr
  obtain ⟨o2, ho, hg, hop, hd⟩ := isOpG_out q2
  have hfr := hall ([0, 1], 2) (by simp)
  refine wpAnyH_take (listed := LR 11 [0, 1]) (v := EL) ho hs hfr.1 hfr.2 (hQ _ _) (Or.inl ⟨(wantedN hg), fun w' hS => run_loadS _ _ hop w' (by (repeat (first | rw [eval_same _ _ (by (try simp only [put_size]); omega)] | rw [eval_far _ _ (by decide)]))) (LL _ hS)⟩) hS0 ?_
  rw [hd, ← LR_snoc]
  clear ho hg hop hd hfr
  obtain ⟨o4, ho, hg, hop, hd⟩ := isOpG_out q4
  have hfr := hall ([0, 1, 2], 4) (by simp)
  refine wpAnyH_take (listed := LR 11 [0, 1, 2]) (v := .pointer (some ⟨bf, 0, none⟩)) ho hs hfr.1 hfr.2 (hQ _ _) (Or.inl ⟨(wantedN hg), fun w' hS => run_move _ _ hop w' (by (repeat rw [eval_far _ _ (by decide)]); exact e3)⟩) hS0 ?_
  rw [hd, ← LR_snoc]
  clear ho hg hop hd hfr
  obtain ⟨o5, ho, hg, hop, hd⟩ := isOpG_out q5
  have hfr := hall ([0, 1, 2, 4], 5) (by simp)
  refine wpAnyH_take (listed := LR 11 [0, 1, 2, 4]) (v := .pointer (some ⟨lb, 10, none⟩)) ho hs hfr.1 hfr.2 (hQ _ _) (Or.inl ⟨(wantedN hg), fun w' hS => run_fldL4 _ _ hop w' (by (repeat rw [eval_far _ _ (by decide)]); exact e8)⟩) hS0 ?_
  rw [hd, ← LR_snoc]
  clear ho hg hop hd hfr
  obtain ⟨o6, ho, hg, hop, hd⟩ := isOpG_out q6
  have hfr := hall ([0, 1, 2, 4, 5], 6) (by simp)
  refine wpAnyH_take (listed := LR 11 [0, 1, 2, 4, 5]) (v := ER) ho hs hfr.1 hfr.2 (hQ _ _) (Or.inl ⟨(wantedN hg), fun w' hS => run_loadS _ _ hop w' (by (repeat (first | rw [eval_same _ _ (by (try simp only [put_size]); omega)] | rw [eval_far _ _ (by decide)]))) (LR0 _ hS)⟩) hS0 ?_
  rw [hd, ← LR_snoc]
  clear ho hg hop hd hfr
  refine wpAnyH_all r3 (by simp) ?_
  intro i hi
  obtain rfl := List.mem_singleton.1 hi
  obtain ⟨o3, ho, hg, hop, hd⟩ := isOpG_out q3
  have x3_0 : (((((((a0.put (some 39) (.pointer (some ⟨bf, 0, none⟩))).put (some 40) (.pointer (some ⟨lb, 4, none⟩))).put (some 41) (EL)).put (some 43) (.pointer (some ⟨bf, 0, none⟩))).put (some 44) (.pointer (some ⟨lb, 10, none⟩))).put (some 45) (ER))).eval (.tmp 39) = .pointer (some ⟨bf, 0, none⟩) := (by (repeat (first | rw [eval_same _ _ (by (try simp only [put_size]); omega)] | rw [eval_far _ _ (by decide)])))
  have x3_1 : (((((((a0.put (some 39) (.pointer (some ⟨bf, 0, none⟩))).put (some 40) (.pointer (some ⟨lb, 4, none⟩))).put (some 41) (EL)).put (some 43) (.pointer (some ⟨bf, 0, none⟩))).put (some 44) (.pointer (some ⟨lb, 10, none⟩))).put (some 45) (ER))).eval (.tmp 41) = EL := (by (repeat (first | rw [eval_same _ _ (by (try simp only [put_size]); omega)] | rw [eval_far _ _ (by decide)])))
  refine wpOp_callG ho (wantedN hg) (run_callV 63 Tryd.func63 (by kernel_rfl) (by kernel_rfl) #[.tmp 39, .tmp 41] _ hop #[.pointer (some ⟨bf, 0, none⟩), EL] (by simp only [List.map_toArray, List.map_cons, List.map_nil, x3_0, x3_1])) ?_
  refine (C1).mono ?_
  rintro e u1 ⟨o1, a1, n1, c1, rfl, hS1, C2⟩
  have hS3 := keep _ _ hS0 hS1
  refine ⟨_, rfl, hS3, ?_⟩
  rw [hd]
  clear ho hg hop hd
  rw [← LR_snoc]
  refine wpAnyH_all r7 (by simp) ?_
  intro i hi
  obtain rfl := List.mem_singleton.1 hi
  obtain ⟨o7, ho, hg, hop, hd⟩ := isOpG_out q7
  have x7_0 : ((((((((a0.put (some 39) (.pointer (some ⟨bf, 0, none⟩))).put (some 40) (.pointer (some ⟨lb, 4, none⟩))).put (some 41) (EL)).put (some 43) (.pointer (some ⟨bf, 0, none⟩))).put (some 44) (.pointer (some ⟨lb, 10, none⟩))).put (some 45) (ER)).put (some 42) (.agg #[.pointer o1, .slice a1 n1 c1]))).eval (.tmp 43) = .pointer (some ⟨bf, 0, none⟩) := (by (repeat (first | rw [eval_same _ _ (by (try simp only [put_size]); omega)] | rw [eval_far _ _ (by decide)])))
  have x7_1 : ((((((((a0.put (some 39) (.pointer (some ⟨bf, 0, none⟩))).put (some 40) (.pointer (some ⟨lb, 4, none⟩))).put (some 41) (EL)).put (some 43) (.pointer (some ⟨bf, 0, none⟩))).put (some 44) (.pointer (some ⟨lb, 10, none⟩))).put (some 45) (ER)).put (some 42) (.agg #[.pointer o1, .slice a1 n1 c1]))).eval (.tmp 45) = ER := (by (repeat (first | rw [eval_same _ _ (by (try simp only [put_size]); omega)] | rw [eval_far _ _ (by decide)])))
  refine wpOp_callG ho (wantedN hg) (run_callV 63 Tryd.func63 (by kernel_rfl) (by kernel_rfl) #[.tmp 43, .tmp 45] _ hop #[.pointer (some ⟨bf, 0, none⟩), ER] (by simp only [List.map_toArray, List.map_cons, List.map_nil, x7_0, x7_1])) ?_
  refine (C2).mono ?_
  rintro e u2 ⟨o2, a2, n2, c2, rfl, hS2, hS2b, C3⟩
  have hS7 := keep _ _ hS3 hS2
  refine ⟨_, rfl, hS7, ?_⟩
  rw [hd]
  clear ho hg hop hd
  rw [← LR_snoc]
  obtain ⟨o8, ho, hg, hop, hd⟩ := isOpG_out q8
  have hfr := hall ([0, 1, 2, 4, 5, 6, 3, 7], 8) (by simp)
  refine wpAnyH_take (listed := LR 11 [0, 1, 2, 4, 5, 6, 3, 7]) (v := .agg #[.pointer o1, .slice a1 n1 c1, .pointer o2, .slice a2 n2 c2]) ho hs hfr.1 hfr.2 (hQ _ _) (Or.inl ⟨(wantedN hg), fun w' hS => run_buildE _ _ hop w' (by (repeat (first | rw [eval_same _ _ (by (try simp only [put_size]); omega)] | rw [eval_far _ _ (by decide)]))) (by (repeat (first | rw [eval_same _ _ (by (try simp only [put_size]); omega)] | rw [eval_far _ _ (by decide)])))⟩) hS7 ?_
  rw [hd, ← LR_snoc]
  clear ho hg hop hd hfr
  refine wpAnyH_all r9 (by simp) ?_
  intro i hi
  obtain rfl := List.mem_singleton.1 hi
  obtain ⟨o9, ho, hg, hop, hd⟩ := isOpG_out q9
  refine wpOp_valG ho (wantedN hg) (run_boxE _ _ hop u2 (by (repeat (first | rw [eval_same _ _ (by (try simp only [put_size]); omega)] | rw [eval_far _ _ (by decide)])))) ?_
  have hS9 := hS2b
  refine ⟨hS9, ?_⟩
  rw [hd]
  clear ho hg hop hd
  rw [← LR_snoc]
  refine wpAnyH_all r10 (by simp) ?_
  intro i hi
  obtain rfl := List.mem_singleton.1 hi
  obtain ⟨o10, ho, hg, hop, hd⟩ := isOpG_out q10
  have x10_0 : (((((((((((a0.put (some 39) (.pointer (some ⟨bf, 0, none⟩))).put (some 40) (.pointer (some ⟨lb, 4, none⟩))).put (some 41) (EL)).put (some 43) (.pointer (some ⟨bf, 0, none⟩))).put (some 44) (.pointer (some ⟨lb, 10, none⟩))).put (some 45) (ER)).put (some 42) (.agg #[.pointer o1, .slice a1 n1 c1])).put (some 46) (.agg #[.pointer o2, .slice a2 n2 c2])).put (some 47) (.agg #[.pointer o1, .slice a1 n1 c1, .pointer o2, .slice a2 n2 c2])).put (some 48) (.pointer (some ⟨u2.heap.size, 0, none⟩)))).eval (.tmp 6) = .pointer (some ⟨bw, 0, none⟩) := (by (repeat rw [eval_far _ _ (by decide)]); exact e6)
  have x10_1 : (((((((((((a0.put (some 39) (.pointer (some ⟨bf, 0, none⟩))).put (some 40) (.pointer (some ⟨lb, 4, none⟩))).put (some 41) (EL)).put (some 43) (.pointer (some ⟨bf, 0, none⟩))).put (some 44) (.pointer (some ⟨lb, 10, none⟩))).put (some 45) (ER)).put (some 42) (.agg #[.pointer o1, .slice a1 n1 c1])).put (some 46) (.agg #[.pointer o2, .slice a2 n2 c2])).put (some 47) (.agg #[.pointer o1, .slice a1 n1 c1, .pointer o2, .slice a2 n2 c2])).put (some 48) (.pointer (some ⟨u2.heap.size, 0, none⟩)))).eval (.tmp 48) = .pointer (some ⟨u2.heap.size, 0, none⟩) := (by (repeat (first | rw [eval_same _ _ (by (try simp only [put_size]); omega)] | rw [eval_far _ _ (by decide)])))
  refine wpOp_callG ho (wantedN hg) (run_callV 62 Tryd.func62 (by kernel_rfl) (by kernel_rfl) #[.tmp 6, .tmp 48] _ hop #[.pointer (some ⟨bw, 0, none⟩), .pointer (some ⟨u2.heap.size, 0, none⟩)] (by simp only [List.map_toArray, List.map_cons, List.map_nil, x10_0, x10_1])) ?_
  refine (C3).mono ?_
  rintro e u3 ⟨v3, rfl, hS3, hP⟩
  have hS10 := keep _ _ hS9 hS3
  refine ⟨_, rfl, hS10, ?_⟩
  rw [hd]
  clear ho hg hop hd
  rw [← LR_snoc]
  exact wpAnyH_done rend (F _ u2 o1 o2 a1 a2 n1 n2 c1 c2 v3 hP) _
end Go.Proofs.YteabclfhmapabaaDoor
end
