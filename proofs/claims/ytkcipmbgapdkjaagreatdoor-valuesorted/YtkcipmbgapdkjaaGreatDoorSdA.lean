import Derived.Test.YtkcipmbgapdkjaaGreatDoorSoTl
namespace Go.Proofs.YtkcipmbgapdkjaaGreatDoor
open Go.RowKit Go.Maps
set_option linter.unusedVariables false
set_option linter.unusedSimpArgs false
attribute [local go_sem ↓] Go.wp_at_zero Go.wp_at_succ

theorem ko_one {k m : Key} (h : kl k m) : ko k m = -1 := by
  have h3 := ko_O3 k m m
  unfold kl at h
  unfold AR.O3 at h3
  omega
theorem ko_name (p q : ByteArray) (v v' : List V) : ko (p, v) (p, v') = ko (q, v) (q, v') := by
  have z : ∀ b : List UInt8, Lib.compareBytes b b = 0 := fun b => by have := AR.compareBytes_anti b b; omega
  show AR.fc _ _ = AR.fc _ _
  unfold AR.fc
  have e1 : Lib.compareBytes (fcK (p, v)).p.data.toList (fcK (p, v')).p.data.toList = 0 := z _
  have e2 : Lib.compareBytes (fcK (q, v)).p.data.toList (fcK (q, v')).p.data.toList = 0 := z _
  rw [e1, e2]
  rfl
theorem Told.of {ks ks' out : List Key} (h : Told ks out) (e : ∀ k, k ∈ ks ↔ k ∈ ks') : Told ks' out := ⟨h.rises, fun k => (h.same k).trans (e k)⟩
def pS : ByteArray := ⟨#[112]⟩
def XF.nm (x : XF) : XF := ⟨pS, x.vs, x.a, x.c⟩
def XF.tu (x : XF) : XF := ⟨noS, x.vs, x.a, x.c⟩
/-- the facts of one name and the tuples: the same lists -/
theorem told_named {l A B : List XF} (hA : Told ((l.map XF.nm).map XF.key) (A.map XF.key)) (hB : Told ((l.map XF.tu).map XF.key) (B.map XF.key)) : B.length = A.length ∧ ∀ i, i < A.length → (atF A i).pr = pS ∧ (atF A i).vs = (atF B i).vs := by
  have hb : ∀ k ∈ B.map XF.key, k.1 = noS := fun k hk => by
    have := (hB.same k).1 hk
    simp only [List.map_map, List.mem_map, Function.comp] at this
    obtain ⟨x, _, rfl⟩ := this
    rfl
  have ht : Told ((l.map XF.nm).map XF.key) ((B.map XF.key).map fun k => (pS, k.2)) := by
    refine ⟨List.pairwise_map.2 (List.Pairwise.imp_of_mem (fun {k m} hk hm h => ?_) hB.rises), fun k => ?_⟩
    · show ko _ _ < 0
      have h' : ko k m < 0 := h
      have e1 := hb k hk
      have e2 := hb m hm
      obtain ⟨k1, k2⟩ := k
      obtain ⟨m1, m2⟩ := m
      simp only at e1 e2
      subst e1 e2
      rw [ko_name pS noS]
      exact h'
    · constructor
      · intro hk
        obtain ⟨m, hm, rfl⟩ := List.mem_map.1 hk
        have := (hB.same m).1 hm
        simp only [List.map_map, List.mem_map, Function.comp] at this ⊢
        obtain ⟨x, hx, rfl⟩ := this
        exact ⟨x, hx, rfl⟩
      · intro hk
        simp only [List.map_map, List.mem_map, Function.comp] at hk
        obtain ⟨x, hx, rfl⟩ := hk
        exact List.mem_map.2 ⟨x.tu.key, (hB.same _).2 (List.mem_map.2 ⟨x.tu, List.mem_map.2 ⟨x, hx, rfl⟩, rfl⟩), rfl⟩
  have e := hA.eq ht
  have hl : B.length = A.length := by have := congrArg List.length e; simpa using this.symm
  refine ⟨hl, fun i hi => ?_⟩
  have := congrArg (fun z => z[i]?) e
  simp only [List.getElem?_map, List.getElem?_eq_getElem hi, List.getElem?_eq_getElem (show i < B.length by omega), Option.map_some, Option.some.injEq] at this
  rw [atF_eq hi, atF_eq (by omega)]
  exact ⟨congrArg Prod.fst this, congrArg Prod.snd this⟩
theorem like_keys {l l' : List XF} (hl' : l'.length = l.length) (hx' : ∀ i, i < l.length → LikeF (atF l i) (atF l' i)) : l'.map XF.key = l.map XF.key := by
  apply List.ext_getElem
  · simpa using hl'
  · intro i h1 h2
    simp only [List.length_map] at h1 h2
    have := hx' i h2
    rw [atF_eq h1, atF_eq h2] at this
    simp only [List.getElem_map, XF.key, this.pr, this.vs]
theorem small_like {l l' : List XF} (h : ∀ i, i < l.length → (atF l i).vs.length ≤ 1048576) (hl' : l'.length = l.length) (hx' : ∀ i, i < l.length → LikeF (atF l i) (atF l' i)) {y : XF} (hy : y ∈ l') : y.vs.length ≤ 1048576 := by
  obtain ⟨i, hi, rfl⟩ := List.getElem_of_mem hy
  have h1 := h i (by omega)
  have h2 := (hx' i (by omega)).vs
  rw [atF_eq hi] at h2
  rw [h2]
  exact h1
theorem TwU.lu {u w0 : World} {lo : Nat} {l l' : List XF} {a : Option Addr} {c : Nat} {v : Value} (h : TwU u lo l' a c) (h0 : Lu w0 v l) (hs1 : l.length ≤ 1048576) (hs2 : ∀ i, i < l.length → (atF l i).vs.length ≤ 1048576) (hl' : l'.length = l.length) (hx' : ∀ i, i < l.length → LikeF (atF l i) (atF l' i)) : Lu u (.slice a l'.length c) l' := by
  obtain ⟨h1, ⟨g, m, h2, h3, h4, h5, h6, h7⟩, h8⟩ := h
  subst h2 h1
  refine ⟨ls_of_range (f := XF.tcells) (k := 1) (by omega) (fun _ => rfl) XF0 (by omega) (by unfold maxLen; omega) h3 (fun i hi j v hv => ?_), fun y hy => ?_⟩
  · have hj : j = 0 := by have := (List.getElem?_eq_some_iff.1 hv).1; simp [XF.tcells] at this; exact this
    subst hj
    rw [Nat.mul_one, Nat.add_zero]
    have := h7 i hi
    rw [this]
    exact hv
  · obtain ⟨i, hi, rfl⟩ := List.getElem_of_mem hy
    have e := h0.at (show i < l.length by omega)
    have := TwF.is (h8 i hi) (hx' i (by omega)) e.1 (hs2 i (by omega))
    have p := (hx' i (by omega)).pr
    rw [atF_eq hi] at this p
    exact ⟨this, p.trans e.2⟩
theorem TwG.lf {u w0 : World} {lo : Nat} {l l' : List XF} {a : Option Addr} {c : Nat} {v : Value} (h : TwG u lo l' a c) (h0 : Lf w0 v l) (hs1 : l.length ≤ 1048576) (hs2 : ∀ i, i < l.length → (atF l i).vs.length ≤ 1048576) (hl' : l'.length = l.length) (hx' : ∀ i, i < l.length → LikeF (atF l i) (atF l' i)) : Lf u (.slice a l'.length c) l' := by
  have hc := h.cap
  obtain ⟨g, rfl, hg, _, hks⟩ := h.range
  subst hc
  exact ⟨ls_of_range (f := XF.cells) (k := 2) (by omega) (fun _ => rfl) XF0 (by omega) (by unfold maxLen; omega) hg hks, fun i hi => TwF.is (h.each i hi) (hx' i (by omega)) (h0.each i (by omega)) (hs2 i (by omega))⟩
/-- TwinFacts, and value.Facts of what it gives -/
theorem twin_facts (v : Value) (l : List XF) (w : World) (hp : PWt w) (hs1 : l.length ≤ 1048576) (hs2 : ∀ i, i < l.length → (atF l i).vs.length ≤ 1048576) (hL : Lf w v l) :
    Calls Tryz.prog 7 #[v] w fun e w' => ∃ aG, e = .returned (.slice aG l.length (l.length + 1)) ∧ Below w.heap.size w w' ∧ Calls Tryz.prog 6 #[.slice aG l.length (l.length + 1)] w' fun e' w'' => ∃ a' c' O, e' = .returned (.slice a' O.length c') ∧ Below w'.heap.size w' w'' ∧ Told (l.map XF.key) (O.map XF.key) ∧ Lf w'' (.slice a' O.length c') O := by
  refine (twinFs_any v l w hp hs1 hs2 hL).mono ?_
  rintro e w' ⟨aG, G, rfl, b, h1, h2, h3⟩
  refine ⟨aG, rfl, b, ?_⟩
  have hLG := h3.lf hL hs1 hs2 h1 h2
  have hk := like_keys h1 h2
  have hn := vfacts_any hLG (fun h => by obtain ⟨g, hg, _⟩ := h3.range; rw [hg] at h; cases h) (by omega) (fun y hy => small_like hs2 h1 h2 hy)
  rw [h1, hk] at hn
  exact hn
theorem twin_tuples (v : Value) (l : List XF) (w : World) (hs1 : l.length ≤ 1048576) (hs2 : ∀ i, i < l.length → (atF l i).vs.length ≤ 1048576) (hL : Lu w v l) :
    Calls Tryz.prog 12 #[v] w fun e w' => ∃ aG, e = .returned (.slice aG l.length (l.length + 1)) ∧ Below w.heap.size w w' ∧ Calls Tryz.prog 11 #[.slice aG l.length (l.length + 1)] w' fun e' w'' => ∃ a' c' O, e' = .returned (.slice a' O.length c') ∧ Below w'.heap.size w' w'' ∧ Told (l.map XF.key) (O.map XF.key) ∧ Lu w'' (.slice a' O.length c') O := by
  refine (twinT_any v l w hs1 hs2 hL).mono ?_
  rintro e w' ⟨aG, G, rfl, b, h1, h2, h3⟩
  refine ⟨aG, rfl, b, ?_⟩
  have hLG := h3.lu hL hs1 hs2 h1 h2
  have hk := like_keys h1 h2
  have hn := vtuples_any hLG (fun h => by obtain ⟨g, m, hg, _⟩ := h3.lies; rw [hg] at h; cases h) (by omega) (fun y hy => small_like hs2 h1 h2 hy)
  rw [h1, hk] at hn
  exact hn
/-- two rows of a call's own that share no block -/
def Dj (v v' : Value) : Prop := ∀ g, v.ownBlock = some g → v'.ownBlock ≠ some g
theorem Dj.flip {v v' : Value} (h : Dj v v') : Dj v' v := fun g h1 h2 => h g h2 h1
theorem own_grow {w w' : World} {b k n : Nat} {ty : TypeId} {v vb : Value} {xs : List Value} (h : w.ownsRow b ty k v n xs) (hg : w.grownBy w' vb.ownBlock) (hd : Dj v vb) : w'.ownsRow b ty k v n xs :=
  own_of_block h (fun g hg' => hg.block g (h.lt g hg').2 (fun e => hd g hg' e.symm))
theorem dj_grow {w : World} {b k n : Nat} {ty : TypeId} {v vb vb' : Value} {xs : List Value} (h : w.ownsRow b ty k v n xs) (hd : Dj v vb) (hloc : vb'.ownBlock = vb.ownBlock ∨ vb'.ownBlock = some w.heap.size) : Dj v vb' := fun g hg e => by
  rcases hloc with l | l
  · rw [l] at e; exact hd g hg e
  · rw [l] at e
    have := (h.lt g hg).2
    cases e
    omega
theorem dj_nil (v : Value) : Dj v (.slice none 0 0) := fun g _ e => by cases e
theorem sf_self {x y : XF} (h : x.key = y.key) : AR.sf x.fc y.fc = true := by
  have := AR.fc_zero x.fc y.fc
  rw [ko_fc, h, ko_self] at this
  exact this.symm
theorem sf_any (x y : XF) (w : World) (hx : FIs w x) (hy : FIs w y) :
    Calls Tryz.prog 26 #[x.val, y.val] w fun e w' => e = .returned (.bool (AR.sf x.fc y.fc)) ∧ Below w.heap.size w w' := AR.sfs x.fc y.fc w (lv_lst hx.vs) (lv_lst hy.vs)
theorem cf_any (x y : XF) (w : World) (hx : FIs w x) (hy : FIs w y) :
    Calls Tryz.prog 8 #[x.val, y.val] w fun e w' => e = .returned (.int .i64 (ko x.key y.key)) ∧ Below w.heap.size w w' := AR.vcf x.fc y.fc w (lv_lst hx.vs) (lv_lst hy.vs)
attribute [-go_sem] loadVar storeVar
set_option maxHeartbeats 3200000 in
theorem in_yes (x : XF) (v : Value) (l : List XF) (w : World) (hx : FIs w x) (hL : Lf w v l) (hm : x.key ∈ l.map XF.key) :
    Calls Tryz.prog 9 #[.agg #[.string x.pr, .slice x.a x.vs.length x.c], v] w fun r w' => r = .returned (.bool true) ∧ Below w.heap.size w w' := by
  have HM := Lib.hid hm
  have b0 : Below w.heap.size w (w.alloc (.cells #[.string x.pr, .slice x.a x.vs.length x.c] 29)) := belowA _
  have HR0 := Lib.hid (rl_new w #[.string x.pr, .slice x.a x.vs.length x.c] 29)
  obtain ⟨W, hW⟩ : ∃ W, W = w.alloc (.cells #[.string x.pr, .slice x.a x.vs.length x.c] 29) := ⟨_, rfl⟩
  have hwl : w.heap.size < W.heap.size := by rw [hW]; simp
  rw [← hW] at b0 HR0
  have HC : Hid (∀ i, i < l.length → ∀ u, Below W.heap.size W u → Calls Tryz.prog 26 #[x.val, .agg (atF l i).cells.toArray] u fun r w' => r = .returned (.bool (AR.sf x.fc (atF l i).fc)) ∧ Below u.heap.size u w') := fun i hi u hu => by
    rw [XF.val_eq]
    have hu' := b0.trans (hu.mono b0.size)
    exact sf_any _ _ u (hx.below hu') ((hL.each i hi).below hu')
  have hLW := hL.below b0
  obtain ⟨a, c, rfl, hc1, hc2, hk⟩ := hLW.form
  have hmax : l.length ≤ maxLen := Nat.le_trans hc1 hc2
  unfold maxLen at hmax
  have HK : Hid _ := hk
  have HB0 := Lib.hid b0
  have HL1 : Hid (∀ u, Below W.heap.size W u → (loadVar 29 ⟨w.heap.size, 0, none⟩).run Tryz.prog u = .ok x.val u) := fun u hu => by
    have := load_Fac (range_below (RL.range HR0.out) hu hwl) rfl
    exact this
  clear hk hL hLW hc2 hx hm HR0 b0
  go_enter Tryz.func9, Tryz.ntmps9
  go_wp2
  rw [← hW]
  clear hW
  go_loopw [5] (fun i wr => ∃ k : Nat, k ≤ l.length ∧ i = .int .i64 k ∧ Below W.heap.size W wr ∧ Hid (∀ j, j < k → x.key ≠ (atF l j).key)) (fun i _ => l.length - (intOf i).toNat)
  case atStart => exact ⟨0, Nat.zero_le _, rfl, Below.refl _ _, fun j hj => absurd hj (by omega)⟩
  case round =>
    obtain ⟨k, hk, rfl, bel, HNO⟩ := hrel
    by_cases hlt : k < l.length
    · have hlt' : (k : Int) < (l.length : Int) := by omega
      have hk0 : (0 : Int) ≤ (k : Int) := by omega
      obtain ⟨g', off', rfl, hg', hKS'⟩ := HK.out (by omega)
      have HL2 : Hid (∀ u, Below W.heap.size W u → (loadVar 29 ⟨g', off' + k * 2, none⟩).run Tryz.prog u = .ok (.agg (atF l k).cells.toArray) u) := fun u hu => load_Fac (range_below (hKS' k hlt) hu hg') rfl
      have HI : Hid _ := HC.out k hlt
      have HQ : Hid (AR.sf x.fc (atF l k).fc = false → x.key ≠ (atF l k).key) := fun h e => by rw [sf_self e] at h; cases h
      generalize AR.sf x.fc (atF l k).fc = Q at HI HQ
      generalize Value.agg (atF l k).cells.toArray = RV at HL2 HI
      have HL1' := HL1
      generalize x.val = QV at HL1' HI
      have hl1 : ∀ u, Below W.heap.size W u → (loadVar 29 ⟨w.heap.size, 0, none⟩).run Tryz.prog u = .ok QV u := HL1'.out
      have hl2 : ∀ u, Below W.heap.size W u → (loadVar 29 ⟨g', off' + k * 2, none⟩).run Tryz.prog u = .ok RV u := HL2.out
      have hS0 := bel
      clear hKS' HL2 HL1'
      cases Q
      all_goals
        go_wp2_with fail
        go_region_held3 (fun u => (Below W.heap.size W u))
          (first
            | assumption
            | exact bel.drew)
          (first
            | (go_at_call 26; refine Calls.mono (HI.out _ (by first | assumption | exact bel.drew)) ?_; rintro ee w2 ⟨rfl, b2⟩; have b2' : Below W.heap.size W w2 := next_ofS (by first | assumption | exact bel.drew) b2)
            | fail)
        go_wp2
      · go_roundw
        case rel => exact ⟨k + 1, by omega, by go_num, b2', fun j hj => by
          by_cases e : j = k
          · rw [e]; exact HQ.out (by first | rfl | trivial)
          · exact HNO.out j (by omega)⟩
        case measure => simp [intOf]; omega
      · go_ret
        exact ⟨rfl, HB0.out.trans (b2'.mono HB0.out.size)⟩
    · obtain rfl : k = l.length := by omega
      exfalso
      obtain ⟨y, hy, e⟩ := List.mem_map.1 HM.out
      obtain ⟨j, hj, rfl⟩ := List.getElem_of_mem hy
      have := HNO.out j hj
      rw [atF_eq hj] at this
      exact this e.symm
end Go.Proofs.YtkcipmbgapdkjaaGreatDoor
