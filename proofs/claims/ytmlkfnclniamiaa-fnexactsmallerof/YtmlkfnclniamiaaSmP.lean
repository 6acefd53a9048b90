/- Rows of rows of numbers: compared, marked, and whether the marks are held. -/
import Derived.Test.YtmlkfnclniamiaaSmL
namespace Go.Proofs.Ytmlkfnclniamiaa
open Go.RowKit
attribute [local go_sem ↓] Go.wp_at_zero Go.wp_at_succ

/-- rows of numbers that are read -/
structure RRR (w : World) (v : Value) (us : List Value) (ls : List (List Int)) : Prop where
  out : ∃ p c, v = .slice p us.length c ∧ us.length ≤ 1000 ∧ (us ≠ [] → ∃ g, p = some ⟨g, 0, none⟩ ∧ g < w.heap.size ∧ ∀ (j : Nat) (u : Value), us[j]? = some u → w.cell? ⟨g, j, none⟩ = some u)
  len : us.length = ls.length
  rows : ∀ (j : Nat) (u : Value) (l : List Int), us[j]? = some u → ls[j]? = some l → NumSl w w.heap.size u l
theorem RRR.on {w w' : World} {v : Value} {us : List Value} {ls : List (List Int)} (h : RRR w v us ls) (hb : Below w.heap.size w w') : RRR w' v us ls := by
  obtain ⟨p, c, e, h1, h2⟩ := h.out
  refine ⟨⟨p, c, e, h1, fun hne => ?_⟩, h.len, fun j u l hu hl => (h.rows j u l hu hl).on hb⟩
  obtain ⟨g, e2, hg, hc⟩ := h2 hne
  exact ⟨g, e2, Nat.lt_of_lt_of_le hg hb.size, fun j u hu => (hb.cell (p := ⟨g, j, none⟩) hg).trans (hc j u hu)⟩
theorem RRO.rd {w : World} {base : Nat} {v : Value} {us : List Value} {ls : List (List Int)} (h : RRO w base v us ls) (hn : us.length ≤ 1000) (hl : ∀ l ∈ ls, l.length ≤ 4294967296) : RRR w v us ls := by
  refine ⟨?_, h.len, fun j u l hu hll => (h.rows j u l hu hll).sl (hl l (List.mem_of_getElem? hll))⟩
  have H := h.own
  rcases h.own.2 with ⟨rfl, h0⟩ | ⟨g, cap, cur, rfl, hg, hblk, hc, hm, _⟩
  · exact ⟨none, 0, by rw [h0], hn, fun hne => absurd (List.length_eq_zero_iff.1 h0) hne⟩
  · exact ⟨_, cap, rfl, hn, fun _ => ⟨g, rfl, (Array.getElem?_eq_some_iff.1 hblk).1, fun j u hu => owns_cell H rfl j u hu⟩⟩
set_option maxRecDepth 100000 in
set_option maxHeartbeats 2000000 in
theorem eq_numss (ls : List (List Int)) (v u : Value) (us ws : List Value) (w : World) (hv : RRR w v us ls) (hu : RRR w u ws ls) :
    Calls Try.prog 36 #[v, u] w fun e w' => e = .returned (.bool true) ∧ Below w.heap.size w w' := by
  obtain ⟨p1, c1, rfl, hn1, ho1⟩ := hv.out
  obtain ⟨p2, c2, rfl, hn2, ho2⟩ := hu.out
  have HV := hide hv
  have HU := hide hu
  have HO1 := hide ho1
  have HO2 := hide ho2
  obtain ⟨K, hK⟩ : ∃ K, us.length = K := ⟨_, rfl⟩
  have hK2 : ws.length = K := by rw [hu.len, ← hv.len]; exact hK
  rw [hK] at hn1 ⊢
  rw [hK2] at hn2 ⊢
  have HK := hide hK
  have HK2 := hide hK2
  clear ho1 ho2 hv hu hK hK2
  go_enter Try.func36, Try.ntmps36
  go_wp2_with fail
  go_loopw [5] (fun i wr => ∃ k : Nat, k ≤ K ∧ i = .int .i64 k ∧ Below w.heap.size w wr) (fun i _ => K - (intOf i).toNat)
  case atStart => exact ⟨0, Nat.zero_le _, rfl, Below.refl _ _⟩
  case round =>
    obtain ⟨k, hk, rfl, hbel⟩ := hrel
    have HB := hide hbel
    have hzw := hbel.size
    clear hbel
    by_cases hlt : k < K
    · have hk1 : k < us.length := by rw [HK.out]; exact hlt
      have hk2 : k < ws.length := by rw [HK2.out]; exact hlt
      obtain ⟨x, hx⟩ : ∃ x, us[k]? = some x := ⟨us[k], List.getElem?_eq_getElem hk1⟩
      obtain ⟨y, hy⟩ : ∃ y, ws[k]? = some y := ⟨ws[k], List.getElem?_eq_getElem hk2⟩
      obtain ⟨l, hl⟩ : ∃ l, ls[k]? = some l := ⟨ls[k]'(by rw [← HV.out.len]; exact hk1), List.getElem?_eq_getElem _⟩
      obtain ⟨g1, rfl, hg1, hc1⟩ := HO1.out (by intro h; rw [h] at hk1; simp at hk1)
      obtain ⟨g2, rfl, hg2, hc2⟩ := HO2.out (by intro h; rw [h] at hk2; simp at hk2)
      have d1 := (HB.out.cell (p := ⟨g1, k, none⟩) hg1).trans (hc1 k x hx)
      have d2 := (HB.out.cell (p := ⟨g2, k, none⟩) hg2).trans (hc2 k y hy)
      have hs1 := HV.out.rows k x l hx hl
      have hs2 := HU.out.rows k y l hy hl
      have HE : Hid (∀ W, Below w.heap.size w W → Calls Try.prog 31 #[x, y] W fun e w' => e = .returned (.bool true) ∧ Below W.heap.size W w') := hide (fun W hW => eq_nums l x y W (hs1.on hW) (hs2.on hW))
      obtain ⟨px, cx, rfl⟩ := hs1.shape
      obtain ⟨py, cy, rfl⟩ := hs2.shape
      obtain ⟨N, hN⟩ : ∃ N, l.length = N := ⟨_, rfl⟩
      rw [hN] at d1 d2 HE
      clear hs1 hs2 hx hy hl hc1 hc2 hN
      go_wp2_with fail
      go_region_with (go_at_call 31; refine (HE.out _ (by first | exact HB.out | exact HB.out.drew | exact HB.out.drew.drew)).mono ?_; rintro e w1 ⟨rfl, hb1⟩; have HB1 := hide hb1; clear hb1)
      go_wp2_with fail
      all_goals
        go_roundw
        case rel => exact ⟨k + 1, hlt, by go_num, by first | exact HB.out.trans (HB1.out.mono hzw) | exact HB.out.drew.trans (HB1.out.mono hzw) | exact HB.out.drew.drew.trans (HB1.out.mono hzw)⟩
        case measure => simp [intOf]; omega
    · go_wp2_with fail
      go_ret
      exact ⟨rfl, HB.out⟩
def cntF (ls : List (List Int)) (k : Nat) : Nat := (ls.take k).flatten.length
theorem cnt_succ {ls : List (List Int)} {k : Nat} {l : List Int} (h : ls[k]? = some l) : cntF ls (k + 1) = cntF ls k + l.length := by
  unfold cntF
  rw [flat_take h, List.length_append]
def marksL (k0 : Nat) (ls : List (List Int)) : List (List Int) := (List.range ls.length).map fun j => markI (k0 + cntF ls j) ((ls[j]?.getD []).length)
theorem marks_len (k0 : Nat) (ls : List (List Int)) : (marksL k0 ls).length = ls.length := by simp [marksL]
theorem marks_get {k0 j : Nat} {ls : List (List Int)} {m : List Int} (h : (marksL k0 ls)[j]? = some m) : ∃ l, ls[j]? = some l ∧ m = markI (k0 + cntF ls j) l.length := by
  obtain ⟨hj, e⟩ := List.getElem?_eq_some_iff.1 h
  have hj' : j < ls.length := by rw [marks_len] at hj; exact hj
  refine ⟨ls[j], List.getElem?_eq_getElem hj', ?_⟩
  rw [← e]
  simp [marksL, List.getElem?_eq_getElem hj']
theorem marks_at {k0 j : Nat} {ls : List (List Int)} {l : List Int} (h : ls[j]? = some l) : (marksL k0 ls)[j]? = some (markI (k0 + cntF ls j) l.length) := by
  have hj := (List.getElem?_eq_some_iff.1 h).1
  rw [List.getElem?_eq_getElem (by rw [marks_len]; exact hj)]
  simp [marksL, h]
theorem cnt_le (ls : List (List Int)) (k : Nat) : cntF ls k ≤ ls.flatten.length := flat_le k
theorem cnt_all {ls : List (List Int)} {k : Nat} (h : ls.length ≤ k) : cntF ls k = ls.flatten.length := by unfold cntF; rw [List.take_of_length_le h]
theorem row_le {ls : List (List Int)} {j : Nat} {l : List Int} (h : ls[j]? = some l) : cntF ls j + l.length ≤ ls.flatten.length := by
  rw [← cnt_succ h]
  exact cnt_le ls (j + 1)
set_option maxRecDepth 100000 in
set_option maxHeartbeats 2000000 in
theorem mark_numss (k0 : Nat) (ls : List (List Int)) (v : Value) (us : List Value) (w : World) (B : Nat) (hk : k0 + ls.flatten.length ≤ 5900000) (hn : us.length ≤ 1000) (hv : RRO w B v us ls) :
    Calls Try.prog 38 #[v, .int .i64 k0] w fun e w' => e = .returned (.int .i64 ((k0 + ls.flatten.length : Nat) : Int)) ∧ RRR w' v us (marksL k0 ls) ∧ Apart w w' (us.flatMap vblocks) := by
  have HV := hide hv
  have HKK := hide hk
  have hrow9 : ∀ l ∈ ls, l.length ≤ 4294967296 := fun l hl => by
    obtain ⟨j, hj, rfl⟩ := List.getElem_of_mem hl
    have := row_le (List.getElem?_eq_getElem hj)
    omega
  have HRD := hide (hv.rd hn hrow9)
  obtain ⟨p1, c1, rfl, -, ho1⟩ := HRD.out.out
  have HO1 := hide ho1
  have HR9 := hide hrow9
  obtain ⟨K, hK⟩ : ∃ K, us.length = K := ⟨_, rfl⟩
  have hK2 : ls.length = K := by rw [← hv.len]; exact hK
  rw [hK] at hn ⊢
  have HK := hide hK
  have HK2 := hide hK2
  clear ho1 hv hK hK2 hrow9
  go_enter Try.func38, Try.ntmps38
  go_wp2_with fail
  go_loopw [1, 5] (fun kv i wr => ∃ k : Nat, k ≤ K ∧ i = .int .i64 k ∧ kv = .int .i64 ((k0 + cntF ls k : Nat) : Int) ∧ (∀ (j : Nat) (u : Value) (l : List Int), us[j]? = some u → ls[j]? = some l → (j < k → NumSl wr wr.heap.size u (markI (k0 + cntF ls j) l.length)) ∧ (k ≤ j → NumSl wr wr.heap.size u l ∧ MOwn B wr u)) ∧ Apart w wr ((us.take k).flatMap vblocks)) (fun _ i _ => K - (intOf i).toNat)
  case atStart => exact ⟨0, Nat.zero_le _, rfl, rfl, fun j u l hu hl => ⟨fun h => absurd h (by omega), fun _ => ⟨HRD.out.rows j u l hu hl, (HV.out.rows j u l hu hl).free⟩⟩, Apart.refl _⟩
  case round =>
    obtain ⟨k, hkn, rfl, rfl, hall, hap⟩ := hrel
    have HA := hide hall
    have HP := hide hap
    have hzw := hap.size
    clear hall hap
    by_cases hlt : k < K
    · have hk1 : k < us.length := by rw [HK.out]; exact hlt
      obtain ⟨x, hx⟩ : ∃ x, us[k]? = some x := ⟨us[k], List.getElem?_eq_getElem hk1⟩
      obtain ⟨l, hl⟩ : ∃ l, ls[k]? = some l := ⟨ls[k]'(by rw [HK2.out]; exact hlt), List.getElem?_eq_getElem _⟩
      obtain ⟨g1, rfl, hg1, hc1⟩ := HO1.out (by intro h; rw [h] at hk1; simp at hk1)
      have hoff : g1 ∉ (us.take k).flatMap vblocks := fun hm => by
        obtain ⟨u', hu', hb'⟩ := List.mem_flatMap.1 hm
        obtain ⟨j', hj', e'⟩ := List.getElem_of_mem hu'
        have hj2 : us[j']? = some u' := by
          rw [← e']
          rw [List.getElem_take]
          exact List.getElem?_eq_getElem _
        exact HV.out.off j' u' hj2 g1 hb' (by rw [HK.out]; simp [vblocks, cellBlocks])
      have d1 := HP.out.cell' (hc1 k x hx) hoff
      obtain ⟨hs1, hm1⟩ := (HA.out k x l hx hl).2 (Nat.le_refl _)
      have hsum := row_le hl
      have HMK : Hid (Calls Try.prog 37 #[x, .int .i64 ((k0 + cntF ls k : Nat) : Int)] wr fun e w' => e = .returned (.int .i64 ((k0 + cntF ls k + l.length : Nat) : Int)) ∧ NumSl w' w'.heap.size x (markI (k0 + cntF ls k) l.length) ∧ Apart wr w' (vblocks x)) := hide (mark_nums (k0 + cntF ls k) l x wr B (by have := HKK.out; omega) hs1 hm1)
      have HCS := hide (cnt_succ hl)
      have HXX := hide hx
      have HLL := hide hl
      obtain ⟨px, cx, hxe⟩ := hs1.shape
      obtain ⟨q, hq⟩ : ∃ q, k0 + cntF ls k = q := ⟨_, rfl⟩
      obtain ⟨N, hN⟩ : ∃ N, l.length = N := ⟨_, rfl⟩
      rw [hN] at hxe
      rw [hq, hN] at HMK
      rw [hq]
      have HQ := hide hq
      have HN := hide hN
      have HXE := hide hxe
      rw [hxe] at d1 HMK
      have hq9 : q + N ≤ 5900000 := by have := HKK.out; omega
      clear hs1 hm1 hx hl hc1 hxe hq hN hsum hoff
      go_wp2_with (go_at_call 37; refine HMK.out.mono ?_; rintro e w1 ⟨rfl, hn1, ha1⟩; have H1 := hide hn1; have HA1 := hide ha1; clear hn1 ha1)
      go_roundw
      case rel =>
        refine ⟨k + 1, hlt, by go_num, by rw [HCS.out, HN.out, ← HQ.out]; congr 1; omega, fun j u l' hu hl' => ⟨fun hj => ?_, fun hj => ?_⟩, ?_⟩
        · by_cases e : j = k
          · subst e
            rw [HXX.out] at hu
            injection hu with hu
            rw [HLL.out] at hl'
            injection hl' with hl'
            rw [← hu, ← hl', HXE.out, HQ.out, HN.out]
            exact H1.out
          · have h1 := (HA.out j u l' hu hl').1 (by omega)
            have hno : ∀ b ∈ vblocks u, b ∉ vblocks (.slice px N cx) := fun b hb => by rw [← HXE.out]; exact HV.out.two j k u x hu HXX.out e b hb
            obtain ⟨ao, cp, e1, e2, e3, e4⟩ := h1
            refine ⟨ao, cp, e1, e2, e3, fun hne => ?_⟩
            obtain ⟨b, o, e5, e6, e7⟩ := e4 hne
            refine ⟨b, o, e5, Nat.lt_of_lt_of_le e6 HA1.out.size, fun i hi => ?_⟩
            exact HA1.out.cell' (e7 i hi) (hno b (by rw [e1, e5]; simp [vblocks, cellBlocks]))
        · obtain ⟨h1, h2⟩ := (HA.out j u l' hu hl').2 (by omega)
          have hno : ∀ b ∈ vblocks u, b ∉ vblocks (.slice px N cx) := fun b hb => by rw [← HXE.out]; exact HV.out.two j k u x hu HXX.out (by omega) b hb
          refine ⟨?_, ⟨fun b hb => ?_⟩⟩
          · obtain ⟨ao, cp, e1, e2, e3, e4⟩ := h1
            refine ⟨ao, cp, e1, e2, e3, fun hne => ?_⟩
            obtain ⟨b, o, e5, e6, e7⟩ := e4 hne
            refine ⟨b, o, e5, Nat.lt_of_lt_of_le e6 HA1.out.size, fun i hi => ?_⟩
            exact HA1.out.cell' (e7 i hi) (hno b (by rw [e1, e5]; simp [vblocks, cellBlocks]))
          · obtain ⟨f1, f2, f3⟩ := h2.free b hb
            obtain ⟨pu, cu, eu⟩ := h1.shape
            have hbv : b ∈ vblocks u := (own_blocks eu).1 hb
            exact ⟨f1, Nat.lt_of_lt_of_le f2 HA1.out.size, fun i => (World.frozen?_of_block (a := ⟨b, i, none⟩) (HA1.out.block b f2 (hno b hbv))).trans (f3 i)⟩
        · have := HP.out.trans HA1.out
          refine this.sub (fun b hb => ?_)
          rw [List.take_add_one, HXX.out, List.flatMap_append]
          rw [List.mem_append] at hb ⊢
          rcases hb with hb | hb
          · exact .inl hb
          · exact .inr (by rw [HXE.out]; simpa using hb)
      case measure => simp [intOf]; omega
    · obtain rfl : K = k := by omega
      have HCN : Hid (cntF ls K = ls.flatten.length) := hide (cnt_all (by rw [HK2.out]; exact Nat.le_refl _))
      go_wp2_with fail
      go_ret
      refine ⟨ret_int (by rw [HCN.out]), ⟨⟨p1, c1, by rw [HK.out], by rw [HK.out]; exact hn, fun hne => ?_⟩, by rw [marks_len, HK.out, HK2.out], fun j u m hu hm => ?_⟩, HP.out.sub (fun b hb => by rw [List.take_of_length_le (by rw [HK.out]; exact Nat.le_refl _)] at hb; exact hb)⟩
      · obtain ⟨g1, e1, hg1, hc1⟩ := HO1.out hne
        refine ⟨g1, e1, Nat.lt_of_lt_of_le hg1 hzw, fun j u hu => HP.out.cell' (hc1 j u hu) (fun hm => ?_)⟩
        obtain ⟨u', hu', hb'⟩ := List.mem_flatMap.1 hm
        obtain ⟨j', hj', e'⟩ := List.getElem_of_mem hu'
        have hj2 : us[j']? = some u' := by
          rw [← e', List.getElem_take]
          exact List.getElem?_eq_getElem _
        exact HV.out.off j' u' hj2 g1 hb' (by rw [e1]; simp [vblocks, cellBlocks])
      · obtain ⟨l, hl, rfl⟩ := marks_get hm
        exact (HA.out j u l hu hl).1 (by have := (List.getElem?_eq_some_iff.1 hu).1; rw [HK.out] at this; exact this)
set_option maxRecDepth 100000 in
set_option maxHeartbeats 2000000 in
theorem held_numss (k0 : Nat) (ls : List (List Int)) (v : Value) (us : List Value) (w : World) (hk : k0 + ls.flatten.length ≤ 5900000) (hv : RRR w v us (marksL k0 ls)) :
    Calls Try.prog 39 #[v, .int .i64 k0] w fun e w' => e = .returned (.int .i64 ((k0 + ls.flatten.length : Nat) : Int)) ∧ Below w.heap.size w w' := by
  obtain ⟨p1, c1, rfl, hn1, ho1⟩ := hv.out
  have HV := hide hv
  have HO1 := hide ho1
  have HKK := hide hk
  obtain ⟨K, hK⟩ : ∃ K, us.length = K := ⟨_, rfl⟩
  have hK2 : ls.length = K := by rw [← marks_len k0 ls, ← hv.len]; exact hK
  rw [hK] at hn1 ⊢
  have HK := hide hK
  have HK2 := hide hK2
  clear ho1 hv hK hK2
  go_enter Try.func39, Try.ntmps39
  go_wp2_with fail
  go_loopw [1, 5] (fun kv i wr => ∃ k : Nat, k ≤ K ∧ i = .int .i64 k ∧ kv = .int .i64 ((k0 + cntF ls k : Nat) : Int) ∧ Below w.heap.size w wr) (fun _ i _ => K - (intOf i).toNat)
  case atStart => exact ⟨0, Nat.zero_le _, rfl, rfl, Below.refl _ _⟩
  case round =>
    obtain ⟨k, hkn, rfl, rfl, hbel⟩ := hrel
    have HB := hide hbel
    have hzw := hbel.size
    clear hbel
    by_cases hlt : k < K
    · have hk1 : k < us.length := by rw [HK.out]; exact hlt
      obtain ⟨x, hx⟩ : ∃ x, us[k]? = some x := ⟨us[k], List.getElem?_eq_getElem hk1⟩
      obtain ⟨l, hl⟩ : ∃ l, ls[k]? = some l := ⟨ls[k]'(by rw [HK2.out]; exact hlt), List.getElem?_eq_getElem _⟩
      obtain ⟨g1, rfl, hg1, hc1⟩ := HO1.out (by intro h; rw [h] at hk1; simp at hk1)
      have d1 := (HB.out.cell (p := ⟨g1, k, none⟩) hg1).trans (hc1 k x hx)
      have hs1 := HV.out.rows k x _ hx (marks_at hl)
      have hsum := row_le hl
      have HHL : Hid (Calls Try.prog 63 #[x, .int .i64 ((k0 + cntF ls k : Nat) : Int)] wr fun e w' => e = .returned (.int .i64 ((k0 + cntF ls k + l.length : Nat) : Int)) ∧ Below wr.heap.size wr w') := hide (held_nums (k0 + cntF ls k) l.length x wr (by have := HKK.out; omega) (hs1.on HB.out))
      have HCS := hide (cnt_succ hl)
      obtain ⟨px, cx, hxe⟩ := hs1.shape
      rw [markI_len] at hxe
      obtain ⟨q, hq⟩ : ∃ q, k0 + cntF ls k = q := ⟨_, rfl⟩
      obtain ⟨N, hN⟩ : ∃ N, l.length = N := ⟨_, rfl⟩
      rw [hN] at hxe
      rw [hq, hN] at HHL
      rw [hq]
      have HQ := hide hq
      have HN := hide hN
      rw [hxe] at d1 HHL
      have hq9 : q + N ≤ 5900000 := by have := HKK.out; omega
      have hnn : ¬ ((q : Int) + (N : Int) < 0) := by omega
      clear hs1 hx hl hc1 hxe hq hN hsum
      go_wp2_with (go_at_call 63; refine HHL.out.mono ?_; rintro e w1 ⟨rfl, hb1⟩; have HB1 := hide hb1; clear hb1)
      go_roundw
      case rel => exact ⟨k + 1, hlt, by go_num, by rw [HCS.out, HN.out, ← HQ.out]; congr 1; omega, HB.out.trans (HB1.out.mono hzw)⟩
      case measure => simp [intOf]; omega
    · obtain rfl : K = k := by omega
      have HCN : Hid (cntF ls K = ls.flatten.length) := hide (cnt_all (by rw [HK2.out]; exact Nat.le_refl _))
      go_wp2_with fail
      go_ret
      exact ⟨ret_int (by rw [HCN.out]), HB.out⟩
end Go.Proofs.Ytmlkfnclniamiaa
