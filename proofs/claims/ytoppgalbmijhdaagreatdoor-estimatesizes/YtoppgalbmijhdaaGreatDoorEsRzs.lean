import Derived.Test.YtoppgalbmijhdaaGreatDoorEsRz
import Derived.Test.YtoppgalbmijhdaaGreatDoorEsSz
namespace Go.Proofs.YtoppgalbmijhdaaGreatDoor
open Go.RowKit Go.Maps Go.ChangeMaps
set_option linter.unusedVariables false
set_option linter.unusedSimpArgs false
attribute [local go_sem ↓] Go.wp_at_zero Go.wp_at_succ
attribute [-go_sem] Builtin.append_

/-! the reference's Sizes -/
theorem SzOk.of {ts ts' : List (List V)} {n : Nat} {ds : List Nat} (h : SzOk ts n ds) (e : ∀ t, t ∈ ts ↔ t ∈ ts') : SzOk ts' n ds := by
  refine ⟨h.n.of e, fun c => (h.wide c).trans ⟨fun ⟨t, h1, h2⟩ => ⟨t, (e t).1 h1, h2⟩, fun ⟨t, h1, h2⟩ => ⟨t, (e t).2 h1, h2⟩⟩, fun c d hd => (h.ds c d hd).of (fun v => ?_)⟩
  rw [mem_col, mem_col]
  exact ⟨fun ⟨t, h1, h2⟩ => ⟨t, (e t).1 h1, h2⟩, fun ⟨t, h1, h2⟩ => ⟨t, (e t).2 h1, h2⟩⟩
theorem own_nodup {p : ByteArray} {ks : List Key} (h : ks.Nodup) : (ownT p ks).Nodup := by
  unfold ownT
  rw [List.Nodup, List.pairwise_map]
  refine (List.Pairwise.filter _ h).imp_of_mem ?_
  intro a b ha hb hne e
  have h1 := (List.mem_filter.1 ha).2
  have h2 := (List.mem_filter.1 hb).2
  simp at h1 h2
  exact hne (Prod.ext (h1.trans h2.symm) e)
theorem rz_ok {ts : List (List V)} {n : Nat} {ds : List Nat} (nd : ts.Nodup) (h1 : n = ts.length) (h2 : RW ts ds.length) (h3 : ∀ k d, ds[k]? = some d → Cnt (colAt k ts) d) : SzOk ts n ds := ⟨⟨ts, nd, fun _ => Iff.rfl, h1.symm⟩, h2, h3⟩
/-- the names of facts that rise, so far -/
structure Nm (fs : List XF) (i : Nat) (ns : List ByteArray) : Prop where
  up : ns.Pairwise bl
  mem : ∀ p, p ∈ ns ↔ ∃ t, (p, t) ∈ (fs.take i).map XF.key
  last : ∀ x, 0 < i → fs[i - 1]? = some x → ∀ p ∈ ns, p = x.pr ∨ bl p x.pr
theorem Nm.start (fs : List XF) : Nm fs 0 [] := ⟨List.Pairwise.nil, fun p => by simp, fun x h => by omega⟩
theorem mem_takeK {fs : List XF} {i : Nat} (h : i < fs.length) (p : ByteArray) : (∃ t, (p, t) ∈ (fs.take (i + 1)).map XF.key) ↔ (∃ t, (p, t) ∈ (fs.take i).map XF.key) ∨ p = (atF fs i).pr := by
  rw [take_fact h, List.map_append]
  constructor
  · rintro ⟨t, ht⟩
    rcases List.mem_append.1 ht with ht | ht
    · exact .inl ⟨t, ht⟩
    · exact .inr (congrArg Prod.fst (List.mem_singleton.1 ht))
  · rintro (⟨t, ht⟩ | rfl)
    · exact ⟨t, List.mem_append_left _ ht⟩
    · exact ⟨(atF fs i).vs, List.mem_append_right _ (List.mem_singleton.2 rfl)⟩
theorem at_get {fs : List XF} {i : Nat} (h : i < fs.length) : fs[i]? = some (atF fs i) := by rw [atF_eq h]; exact List.getElem?_eq_getElem h
theorem Nm.same {fs : List XF} {i : Nat} {ns : List ByteArray} (h : Nm fs i ns) (hi : i < fs.length) (h0 : 0 < i) (e : (atF fs i).pr = (atF fs (i - 1)).pr) : Nm fs (i + 1) ns := by
  refine ⟨h.up, fun p => ?_, fun x _ hx p hp => ?_⟩
  · rw [mem_takeK hi, h.mem]
    constructor
    · exact .inl
    · rintro (h1 | rfl)
      · exact h1
      · refine ⟨(atF fs (i - 1)).vs, ?_⟩
        rw [e]
        refine List.mem_map.2 ⟨atF fs (i - 1), ?_, rfl⟩
        rw [atF_eq (by omega)]
        exact List.mem_take_iff_getElem.2 ⟨i - 1, by omega, rfl⟩
  · rw [Nat.add_sub_cancel, at_get hi] at hx
    cases hx
    rw [e]
    exact h.last _ h0 (at_get (by omega)) p hp
theorem Nm.more {fs : List XF} {i : Nat} {ns : List ByteArray} (h : Nm fs i ns) (hi : i < fs.length) (hl : ∀ p ∈ ns, bl p (atF fs i).pr) : Nm fs (i + 1) (ns ++ [(atF fs i).pr]) := by
  refine ⟨?_, fun p => ?_, fun x _ hx p hp => ?_⟩
  · rw [List.pairwise_append]
    exact ⟨h.up, List.pairwise_singleton _ _, fun a ha b hb => by rw [List.mem_singleton.1 hb]; exact hl a ha⟩
  · rw [mem_takeK hi, List.mem_append, h.mem, List.mem_singleton]
  · rw [Nat.add_sub_cancel, at_get hi] at hx
    cases hx
    rcases List.mem_append.1 hp with hp | hp
    · exact .inr (hl p hp)
    · exact .inl (List.mem_singleton.1 hp)
theorem Nm.next {fs : List XF} {i : Nat} {ns : List ByteArray} (h : Nm fs i ns) (hi : i < fs.length) (h0 : 0 < i) (hr : (fs.map XF.key).Pairwise kl) (e : (atF fs i).pr ≠ (atF fs (i - 1)).pr) : Nm fs (i + 1) (ns ++ [(atF fs i).pr]) := by
  refine h.more hi (fun p hp => ?_)
  have hk : kl (atF fs (i - 1)).key (atF fs i).key := pw_get hr (i := i - 1) (j := i) (by rw [List.getElem?_map, at_get (by omega)]; rfl) (by rw [List.getElem?_map, at_get hi]; rfl) (by omega)
  have hb : bl (atF fs (i - 1)).pr (atF fs i).pr := by
    rcases kl_bl hk with e' | hb
    · exact absurd e'.symm e
    · exact hb
  rcases h.last _ h0 (at_get (by omega)) p hp with rfl | h1
  · exact hb
  · exact bl_trans _ _ _ h1 hb
theorem Nm.first {fs : List XF} (hi : 0 < fs.length) : Nm fs 1 [(atF fs 0).pr] := (Nm.start fs).more hi (fun p hp => absurd hp (by simp))
set_option maxHeartbeats 12800000 in
set_option maxRecDepth 100000 in
theorem rsizes_any (v : Value) (l : List XF) (w : World) (hL : Lf w v l) (hn : l.length ≤ 1048576) (hsm : ∀ y ∈ l, y.vs.length ≤ 1048576) :
    Calls Tryz.prog 5 #[v] w fun e w' => ∃ sa sc zs, e = .returned (.slice sa zs.length sc) ∧ Below w.heap.size w w' ∧ Zg w.heap.size w' sa sc zs ∧ Szs (l.map XF.key) (zs.map ZS.sz) := by
  obtain ⟨j0, hj0, hz0, hz1, hz2⟩ := info_partsS infoSz
  obtain ⟨va, vc, rfl, hv1, hv2, hv3⟩ := hL.form
  clear hv1 hv2 hv3
  have HRF := Lib.hid (rfacts_any l.length l va vc w (Nat.le_refl _) hL.lies (fun y hy => by obtain ⟨i, hi, rfl⟩ := List.getElem_of_mem hy; have := hL.each i hi; rw [atF_eq hi] at this; exact this) hn hsm)
  have HSM := Lib.hid hsm
  clear hL hsm
  go_enter Tryz.func5, Tryz.ntmps5
  go_wp2_with fail
  refine HRF.out.mono ?_
  rintro e w2 ⟨fa, fc, fs, rfl, b2, htold, hls, hfi, hfl⟩
  have hLf : Lf w2 (.slice fa fs.length fc) fs := ⟨hls, fun i hi => by rw [atF_eq hi]; exact hfi _ (List.getElem_mem hi)⟩
  obtain ⟨fa', fc', hfe, hf1, hf2, hfk⟩ := hLf.form
  injection hfe with e1 e2 e3
  subst e1 e3
  have HLF := Lib.hid hLf
  have HFK := Lib.hid hfk
  have HB2 := Lib.hid b2
  have HFL : Hid (fs.length ≤ 1048576) := by show _ ≤ _; omega
  have HSMF : Hid (∀ y ∈ fs, y.vs.length ≤ 1048576) := fun y hy => by
    obtain ⟨x, hx, e⟩ := List.mem_map.1 ((htold.same y.key).1 (List.mem_map_of_mem hy))
    have h1 := HSM.out x hx
    have h2 : x.vs = y.vs := congrArg Prod.snd e
    rw [h2] at h1
    exact h1
  have HTOLD := Lib.hid htold
  have HBr := Lib.hid (Below.refl w2.heap.size w2)
  have HZ0 := Lib.hid (Zg.start w2.heap.size w2)
  have HN0 : Hid (Nm fs 0 (([] : List ZS).map ZS.pr)) := Nm.start fs
  have HK0 : Hid (∀ z ∈ ([] : List ZS), SzOk (ownT z.pr (fs.map XF.key)) z.n z.ds) := fun z hz => absurd hz (by simp)
  clear hls hfi hLf hfk e2 hf2 htold b2 HRF hfl
  go_wp2
  go_loopw [3, 4] (fun sv j wz => ∃ (i : Nat) (sa : Option Addr) (sc : Nat) (zs : List ZS), i ≤ fs.length ∧ zs.length ≤ i ∧ j = .int .i64 i ∧ sv = .slice sa zs.length sc ∧ Hid (Below w2.heap.size w2 wz) ∧ Hid (Zg w2.heap.size wz sa sc zs) ∧ Hid (Nm fs i (zs.map ZS.pr)) ∧ Hid (∀ z ∈ zs, SzOk (ownT z.pr (fs.map XF.key)) z.n z.ds)) (fun _ j _ => fs.length - (intOf j).toNat)
  case atStart => exact ⟨0, none, 0, [], Nat.zero_le _, Nat.zero_le _, rfl, rfl, HBr, HZ0, HN0, HK0⟩
  case round =>
    clear HBr HZ0 HN0 HK0
    obtain ⟨i, sa, sc, zs, hi, hzi, rfl, rfl, HB, HZ, HN, HOK⟩ := hrel
    by_cases hlti : i < fs.length
    · have hlti' : (i : Int) < (fs.length : Int) := by omega
      have hi0' : (0 : Int) ≤ (i : Int) := by omega
      obtain ⟨g, off, rfl, hg, hKS⟩ := HFK.out (by omega)
      have HX0 : Hid (∀ u, Below w2.heap.size w2 u → ∀ j, j < fs.length → u.cell? ⟨g, off + j * 2, none⟩ = some (.string (atF fs j).pr)) := fun u hu j hj => by rw [hu.cell (p := ⟨g, _, none⟩) hg]; exact hKS j hj 0 _ rfl
      clear hKS hg
      have hfl := HFL.out
      by_cases hi0 : i = 0
      · have hi1 : ((i : Int) == 0) = true := by simp [hi0]
        have hnx : Nm fs (i + 1) (zs.map ZS.pr ++ [(atF fs i).pr]) := by
          obtain rfl : zs = [] := List.eq_nil_of_length_eq_zero (by omega)
          subst hi0
          exact Nm.first hlti
        clear hi0
        go_wp2_with fail
        go_quiet (fail)
        have hbq : Below wr.heap.size wr (wr.drewN nq) := below_drewV (Below.refl _ wr) nq
        have HBS := Lib.hid (HB.out.trans (hbq.mono HB.out.size))
        have HZS := Lib.hid (HZ.out.keep hbq)
        generalize hWQ : wr.drewN nq = W at hbq HBS HZS ⊢
        have x0 := HX0.out W HBS.out i hlti
        have HRZ := Lib.hid (rsize_any fs (some ⟨g, off, none⟩) fc (atF fs i).pr W (HLF.out.below HBS.out) hfl HSMF.out)
        have HNX : Hid (Nm fs (i + 1) (zs.map ZS.pr ++ [(atF fs i).pr])) := hnx
        generalize (atF fs i).pr = P at x0 HRZ HNX
        clear hWQ hbq hnx HB HZ HN HX0 hi1
        go_wp2_with fail
        refine HRZ.out.mono ?_
        rintro e w6 ⟨n, ds, da, dc, rfl, b6, hod, hn1, hrw, hcc⟩
        have HOKn : Hid (SzOk (ownT P (fs.map XF.key)) n ds) := rz_ok (own_nodup HTOLD.out.nodup) hn1 hrw hcc
        have hB2 : w2.heap.size ≤ W.heap.size := HBS.out.size
        have hoZ := own_below (own_below HZS.out.own b6) (belowA (w := w6) (.cells #[.string P, .int .i64 (n : Nat), .slice da ds.length dc] 36))
        obtain ⟨v', w7, hrun, hown', hgrow, hnilx, hloc⟩ := run_append_own_at (P := Tryz.prog) (w6.alloc (.cells #[.string P, .int .i64 (n : Nat), .slice da ds.length dc] 36)) w2.heap.size 24 24 36 j0 _ 3 48 Tryz.underlying24 hj0 hz0 hz1 hz2 rfl (by decide) _ _ _ hoZ ⟨_, 0, none⟩ 1 1 [.string P, .int .i64 (n : Nat), .slice da ds.length dc] rfl (lit_news w6 #[.string P, .int .i64 (n : Nat), .slice da ds.length dc] _) (by simp [Value.oneCell']) (by unfold maxLen; omega) (by omega) (by have h1 := b6.size; simp; omega)
        obtain ⟨a7, c7, rfl, hst, hbl⟩ := HZS.out.step hB2 b6 ⟨P, n, ds, da, dc⟩ hod hown' hgrow hloc
        have HST := Lib.hid hst
        have HB7 := Lib.hid (hbl HBS.out)
        have HLn : Hid ((zs ++ [(⟨P, n, ds, da, dc⟩ : ZS)]).length = zs.length + 1) := by show _ = _; simp
        have HNn : Hid (Nm fs (i + 1) ((zs ++ [(⟨P, n, ds, da, dc⟩ : ZS)]).map ZS.pr)) := by
          show Nm _ _ _
          rw [List.map_append]
          exact HNX.out
        have HOKN : Hid (∀ z ∈ zs ++ [(⟨P, n, ds, da, dc⟩ : ZS)], SzOk (ownT z.pr (fs.map XF.key)) z.n z.ds) := fun z hz => by
          rcases List.mem_append.1 hz with hz | hz
          · exact HOK.out z hz
          · rw [List.mem_singleton.1 hz]
            exact HOKn.out
        clear hoZ hown' hgrow hnilx hloc hst hbl hod hn1 hrw hcc b6 HZS HBS HRZ HNX x0
        go_wp2
        go_roundw
        case rel => exact ⟨(i + 1), a7, c7, zs ++ [⟨P, n, ds, da, dc⟩], by omega, by rw [HLn.out]; omega, by go_num, by rw [HLn.out], HB7, HST, HNn, HOKN⟩
        case measure => simp [intOf]; omega
      · have hi1 : ((i : Int) == 0) = false := by rw [beq_eq_false_iff_ne]; omega
        obtain ⟨k, hk⟩ : ∃ k, k + 1 = i := ⟨i - 1, by omega⟩
        have hki : (i : Int) - 1 = (k : Int) := by omega
        have hk0' : (0 : Int) ≤ (k : Int) := by omega
        have hkl : (k : Int) < (fs.length : Int) := by omega
        have x0 := HX0.out wr HB.out i hlti
        have x1 := HX0.out wr HB.out k (by omega)
        have e1 : i - 1 = k := by omega
        by_cases hpe : (atF fs i).pr = (atF fs k).pr
        · have hpt : ((atF fs i).pr.toList == (atF fs k).pr.toList) = true := by rw [eq_bytesE, decide_eq_true hpe]
          have HNn : Hid (Nm fs (i + 1) (zs.map ZS.pr)) := HN.out.same hlti (by omega) (by rw [e1]; exact hpe)
          generalize (atF fs i).pr = P at x0 hpt
          generalize (atF fs k).pr = R at x1 hpt
          clear hpe e1 HX0
          go_wp2_with fail
          go_quiet (fail)
          have hbq : Below wr.heap.size wr (wr.drewN nq) := below_drewV (Below.refl _ wr) nq
          have HBS := Lib.hid (HB.out.trans (hbq.mono HB.out.size))
          have HZS := Lib.hid (HZ.out.keep hbq)
          clear hbq HB HZ HN
          go_wp2
          go_roundw
          case rel => exact ⟨i + 1, sa, sc, zs, by omega, by omega, by go_num, rfl, HBS, HZS, HNn, HOK⟩
          case measure => simp [intOf]; omega
        · have hpt : ((atF fs i).pr.toList == (atF fs k).pr.toList) = false := by rw [eq_bytesE, decide_eq_false hpe]
          have hnx : Nm fs (i + 1) (zs.map ZS.pr ++ [(atF fs i).pr]) := HN.out.next hlti (by omega) HTOLD.out.rises (by rw [e1]; exact hpe)
          clear hpe e1
          go_wp2_with fail
          go_quiet (fail)
          have hbq : Below wr.heap.size wr (wr.drewN nq) := below_drewV (Below.refl _ wr) nq
          clear x0 x1
          have HBS := Lib.hid (HB.out.trans (hbq.mono HB.out.size))
          have HZS := Lib.hid (HZ.out.keep hbq)
          generalize hWQ : wr.drewN nq = W at hbq HBS HZS ⊢
          have x0 := HX0.out W HBS.out i hlti
          have HRZ := Lib.hid (rsize_any fs (some ⟨g, off, none⟩) fc (atF fs i).pr W (HLF.out.below HBS.out) hfl HSMF.out)
          have HNX : Hid (Nm fs (i + 1) (zs.map ZS.pr ++ [(atF fs i).pr])) := hnx
          generalize (atF fs i).pr = P at x0 HRZ HNX
          clear hWQ hbq hnx HB HZ HN HX0 hki hpt
          go_wp2_with fail
          refine HRZ.out.mono ?_
          rintro e w6 ⟨n, ds, da, dc, rfl, b6, hod, hn1, hrw, hcc⟩
          have HOKn : Hid (SzOk (ownT P (fs.map XF.key)) n ds) := rz_ok (own_nodup HTOLD.out.nodup) hn1 hrw hcc
          have hB2 : w2.heap.size ≤ W.heap.size := HBS.out.size
          have hoZ := own_below (own_below HZS.out.own b6) (belowA (w := w6) (.cells #[.string P, .int .i64 (n : Nat), .slice da ds.length dc] 36))
          obtain ⟨v', w7, hrun, hown', hgrow, hnilx, hloc⟩ := run_append_own_at (P := Tryz.prog) (w6.alloc (.cells #[.string P, .int .i64 (n : Nat), .slice da ds.length dc] 36)) w2.heap.size 24 24 36 j0 _ 3 48 Tryz.underlying24 hj0 hz0 hz1 hz2 rfl (by decide) _ _ _ hoZ ⟨_, 0, none⟩ 1 1 [.string P, .int .i64 (n : Nat), .slice da ds.length dc] rfl (lit_news w6 #[.string P, .int .i64 (n : Nat), .slice da ds.length dc] _) (by simp [Value.oneCell']) (by unfold maxLen; omega) (by omega) (by have h1 := b6.size; simp; omega)
          obtain ⟨a7, c7, rfl, hst, hbl⟩ := HZS.out.step hB2 b6 ⟨P, n, ds, da, dc⟩ hod hown' hgrow hloc
          have HST := Lib.hid hst
          have HB7 := Lib.hid (hbl HBS.out)
          have HLn : Hid ((zs ++ [(⟨P, n, ds, da, dc⟩ : ZS)]).length = zs.length + 1) := by show _ = _; simp
          have HNn : Hid (Nm fs (i + 1) ((zs ++ [(⟨P, n, ds, da, dc⟩ : ZS)]).map ZS.pr)) := by
            show Nm _ _ _
            rw [List.map_append]
            exact HNX.out
          have HOKN : Hid (∀ z ∈ zs ++ [(⟨P, n, ds, da, dc⟩ : ZS)], SzOk (ownT z.pr (fs.map XF.key)) z.n z.ds) := fun z hz => by
            rcases List.mem_append.1 hz with hz | hz
            · exact HOK.out z hz
            · rw [List.mem_singleton.1 hz]
              exact HOKn.out
          clear hoZ hown' hgrow hnilx hloc hst hbl hod hn1 hrw hcc b6 HZS HBS HRZ HNX x0
          go_wp2
          go_roundw
          case rel => exact ⟨(i + 1), a7, c7, zs ++ [⟨P, n, ds, da, dc⟩], by omega, by rw [HLn.out]; omega, by go_num, by rw [HLn.out], HB7, HST, HNn, HOKN⟩
          case measure => simp [intOf]; omega
    · obtain rfl : i = fs.length := by omega
      go_wp2
      go_ret
      have ht := HTOLD.out
      have hk := HN.out
      refine ⟨sa, sc, zs, rfl, HB2.out.trans (HB.out.mono HB2.out.size), ⟨own_lower HZ.out.own HB2.out.size, fun z hz => ⟨own_lower (HZ.out.ds z hz).1 HB2.out.size, (HZ.out.ds z hz).2⟩⟩, ⟨?_, fun p => ?_, fun z hz => ?_⟩⟩
      · rw [List.map_map]
        exact hk.up
      · rw [List.map_map]
        refine (hk.mem p).trans ?_
        rw [List.take_length]
        exact ⟨fun ⟨t, h1⟩ => ⟨t, (ht.same _).1 h1⟩, fun ⟨t, h1⟩ => ⟨t, (ht.same _).2 h1⟩⟩
      · obtain ⟨y, hy, rfl⟩ := List.mem_map.1 hz
        exact (HOK.out y hy).of (fun t => by rw [mem_own, mem_own, ht.same]; exact Iff.rfl)
end Go.Proofs.YtoppgalbmijhdaaGreatDoor
