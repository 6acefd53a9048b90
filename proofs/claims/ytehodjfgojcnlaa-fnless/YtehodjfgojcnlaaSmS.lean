/- SmallerOf of the specification. -/
import Derived.Test.YtehodjfgojcnlaaSmN
namespace Go.Proofs.Ytehodjfgojcnlaa
open Go.RowKit
attribute [local go_sem ↓] Go.wp_at_zero Go.wp_at_succ

theorem set_turn (t : List Int) (k : Nat) (x : Int) (h : k < t.length) : t.set k x = turnT t k [x] := by
  unfold turnT
  rw [List.set_eq_take_append_cons_drop, if_pos h]
  rfl
theorem num_app {w : World} {base : Nat} {v : Value} {l r : List Int} {M N : Nat} (hM : l.length = M) (hN : r.length = N) (h : w.ownsRow base 2 1 v (M + N) (numV l ++ numV r)) : NumOwn w base v (l ++ r) := by
  unfold NumOwn
  rw [List.length_append, hM, hN, numV_app]
  exact h
set_option maxRecDepth 100000 in
set_option maxHeartbeats 2000000 in
theorem s_with (t : List Int) (k b o c : Nat) (x : Int) (w : World) (hk : k < t.length) (ht : t.length ≤ 12) (hb : b < w.heap.size) (hn : Nums w b o t) :
    Calls Try.prog 28 #[.slice (some ⟨b, o, none⟩) t.length c, .int .i64 k, .int .i64 x] w fun e w' => ∃ v, e = .returned v ∧ NumOwn w' w.heap.size v (turnT t k [x]) ∧ Below w.heap.size w w' := by
  obtain ⟨i0, hi, hz0, hz1, hz2⟩ := info_parts Try.infoI64
  have HI := hide (And.intro hi (And.intro hz0 (And.intro hz1 hz2)))
  have HN : Hid (∀ W, Below w.heap.size w W → Nums W b o t) := hide (fun W hW => hn.carry hb hW)
  have HT := hide (set_turn t k x hk)
  obtain ⟨L, hL⟩ : ∃ L, t.length = L := ⟨_, rfl⟩
  rw [hL] at hk ht ⊢
  have HL := hide hL
  clear hi hz0 hz1 hz2 hn hL
  go_enter Try.func28, Try.ntmps28
  go_wp2_with (at_builtin; refine wpList_append_own _ rfl (.tmp 8) (.tmp 9) 23 rfl w.heap.size 2 i0 (.int .i64 0) 1 8 Try.underlying23 HI.out.1 HI.out.2.1 HI.out.2.2.1 HI.out.2.2.2 rfl (by decide) (.slice (some ⟨w.heap.size, 0, none⟩) 0 0) 0 [] rfl (owns_empty _ _ _ _ _ (Nat.le_refl _) (mheap_new _ _ _ rfl)) ⟨b, o, none⟩ L c (numV t) rfl (by rw [numV_len, HL.out]) (fun j u hj => by obtain ⟨hj', e⟩ := numV_get hj; rw [addr_to, e]; exact (HN.out _ (malloc1 w _)) j hj') (numV_one t) (by unfold maxLen; omega) (by omega) (by simp) ?_; intro v4 w4 hown4 hgr4 _; have HO4 : Hid (NumOwn w4 w.heap.size v4 t) := hide (by have := hown4; rw [Nat.zero_add, List.nil_append] at this; unfold NumOwn; rw [HL.out]; exact this); have HB4 : Hid (Below w.heap.size w w4) := hide ((malloc1 w _).trans ((grownBy_apart hgr4).below (by simp) (by simp [vblocks, cellBlocks]))); obtain ⟨g4, c4, hv4, hg4⟩ : ∃ g c, v4 = .slice (some ⟨g, 0, none⟩) L c ∧ w.heap.size ≤ g := (by rcases HO4.out.2 with ⟨_, h1⟩ | ⟨g', cap', cur', hv', hb', _⟩; (rw [HL.out] at h1; omega); (rw [HL.out] at hv'; exact ⟨g', cap', hv', hb'⟩)); subst hv4; have d1 : w4.cell? ⟨g4, k, none⟩ = some (.int .i64 (t[k]'(by rw [HL.out]; exact hk))) := owns_cell HO4.out (by rw [HL.out]) k _ (numV_at (by rw [HL.out]; exact hk)); have hfz := fun j => (owns_fresh HO4.out).free g4 (by simp [vblocks, cellBlocks]) j; clear hown4 hgr4)
  go_ret
  refine ⟨.slice (some ⟨g4, 0, none⟩) L c4, rfl, ?_, HB4.out.setCell (p := ⟨g4, k, none⟩) hg4 _⟩
  have hst := (World.ownsRow.stored (by have := HO4.out; unfold NumOwn at this; rw [HL.out] at this; exact this) k (.int .i64 x)).1
  rw [← HT.out]
  unfold NumOwn
  rw [List.length_set, HL.out]
  have e : (numV t).set k (.int .i64 x) = numV (t.set k x) := by unfold numV; rw [List.map_set]
  rw [← e]
  exact hst
set_option maxRecDepth 100000 in
set_option maxHeartbeats 8000000 in
theorem s_l08Smaller (t : List Int) (tv : Value) (w : World) (htb : tapeB t = true) (hv : NumSl w w.heap.size tv t) :
    Calls Try.prog 19 #[tv] w fun e w' => ∃ v us, e = .returned v ∧ RRO w' w.heap.size v us (smallTo t 4) ∧ Below w.heap.size w w' := by
  obtain ⟨i0, hi, hz0, hz1, hz2⟩ := info_parts Try.infoI64
  have HI := hide (And.intro hi (And.intro hz0 (And.intro hz1 hz2)))
  obtain ⟨i1, hj, hy0, hy1, hy2⟩ := info_parts Try.infoI64s
  have HJ := hide (And.intro hj (And.intro hy0 (And.intro hy1 hy2)))
  have HQ := hide htb
  obtain ⟨ao, cap, rfl, hc, hm, hr⟩ := hv
  have HR := hide hr
  have h12 := tape_len htb
  have HSL : Hid (∀ n k, n < 4 → k ≤ t.length → (smallTo t n ++ passTo n t k).length ≤ 100) := hide (fun n k hn hk => by
    rw [List.length_append]
    have h1 := small_len t n
    have h2 := pass_len n t k
    have : n * t.length ≤ 3 * 12 := Nat.mul_le_mul (by omega) h12
    omega)
  obtain ⟨L, hL⟩ : ∃ L, t.length = L := ⟨_, rfl⟩
  rw [hL] at h12 hc ⊢
  have HL := hide hL
  clear hi hz0 hz1 hz2 hr hj hy0 hy1 hy2 htb hL
  go_enter Try.func19, Try.ntmps19
  go_wp2_with fail
  go_loopw [3, 4] (fun cv i wr => ∃ (k : Nat) (us : List Value), k ≤ L ∧ i = .int .i64 k ∧ RRO wr w.heap.size cv us (smallTo t 0 ++ passTo 0 t k) ∧ Below w.heap.size w wr) (fun _ i _ => L - (intOf i).toNat)
  case atStart => exact ⟨0, [], Nat.zero_le _, rfl, ⟨owns_empty _ _ _ _ _ (Nat.le_refl _) (mheap_new _ _ _ rfl), rfl, (fun j u l h => by simp at h), (fun j u h => by simp at h), (fun i j u u' h => by simp at h)⟩, malloc1 _ _⟩
  case round =>
    obtain ⟨k, us, hk, rfl, hrro, hbel⟩ := hrel
    have HRR := hide hrro
    have HBL := hide hbel
    have hzw := hbel.size
    obtain ⟨dp, dc, hdv⟩ := owns_shape hrro.own
    subst hdv
    have hul : us.length ≤ 100 := by rw [hrro.len]; exact HSL.out 0 k (by omega) (by rw [HL.out]; exact hk)
    obtain ⟨V, hV⟩ : ∃ V, us.length = V := ⟨_, rfl⟩
    rw [hV] at hul ⊢
    have HV := hide hV
    clear hrro hbel hV
    by_cases hlt : k < L
    · have hkt : k < t.length := by rw [HL.out]; exact hlt
      obtain ⟨x, hx⟩ : ∃ x, t[k]? = some x := ⟨t[k], List.getElem?_eq_getElem hkt⟩
      obtain ⟨hx0, hx1⟩ := tape_num HQ.out hx
      obtain ⟨b, o, rfl, hbB, hnums⟩ := HR.out (fun e => by rw [e] at hkt; simp at hkt)
      have c0 := (hnums.carry hbB HBL.out) k hkt
      rw [(List.getElem?_eq_some_iff.1 hx).2] at c0
      have HON := hide (one_if (n := 0) (by omega) hx)
      have hbw : b < wr.heap.size := Nat.lt_of_lt_of_le hbB hzw
      have HNUM : Hid (∀ W, Below w.heap.size w W → Nums W b o t) := hide (fun W hW => hnums.carry hbB hW)
      clear hnums hx
      have HST : Hid (smallTo t 0 ++ passTo 0 t (k + 1) = smallTo t 0 ++ passTo 0 t k ++ [turnT t k []]) := hide (by rw [pass_succ, HON.out, if_pos (by omega), List.append_assoc]; rfl)
      have hwr : IntKind.i64.wrap ((k : Int) + 1) = (k : Int) + 1 := by rw [IntKind.wrap_i64]; omega
      have hk0 : 0 ≤ (k : Int) + 1 := by omega
      have hk1 : (k : Int) + 1 ≤ (L : Int) := by omega
      have hk2 : (k : Int) ≤ (k : Int) + 1 := by omega
      have hkc : (k : Int) ≤ (cap : Int) := by omega
      have HTK : Hid ((t.take k).length = k) := hide (by rw [List.length_take, HL.out]; omega)
      have HDK : Hid ((t.drop (k + 1)).length = L - (k + 1)) := hide (by rw [List.length_drop, HL.out])
      have HTN : Hid (turnT t k [] = t.take k ++ t.drop (k + 1)) := hide rfl
      by_cases hcap : cap = k + 1
      · obtain rfl : L = k + 1 := by omega
        subst hcap
        have hk3 : (k : Int) + 1 ≤ ((k + 1 : Nat) : Int) := by omega
        go_wp2_with (first
          | ((fail_if_success (have := HO5)); at_builtin; refine wpList_append_own_at _ rfl (.tmp 16) (.tmp 19) 23 rfl wr.heap.size 2 i0 (.int .i64 0) 1 8 Try.underlying23 HI.out.1 HI.out.2.1 HI.out.2.2.1 HI.out.2.2.2 rfl (by decide) (.slice (some ⟨wr.heap.size, 0, none⟩) 0 0) 0 [] rfl (owns_empty _ _ _ _ _ (Nat.le_refl _) (mheap_new _ _ _ rfl)) ⟨b, o, none⟩ k (k + 1) (numV (t.take k)) rfl (by rw [numV_len, HTK.out]) (fun j u hj => by obtain ⟨hj', e⟩ := numV_get hj; rw [addr_to, e]; exact (HNUM.out _ (HBL.out.trans ((malloc1 wr _).mono hzw))).take k j hj') (numV_one _) (by unfold maxLen; omega) (by omega) (by simp) ?_; intro v5 w5 hown5 hgr5 _ hat5; have HO5 : Hid (w5.ownsRow wr.heap.size 2 1 v5 k (numV (t.take k))) := hide (by have := hown5; rw [Nat.zero_add, List.nil_append] at this; exact this); have HE5 : Hid (Below wr.heap.size wr w5) := hide ((malloc1 wr _).trans ((grownBy_apart hgr5).below (by simp) (by simp [vblocks, cellBlocks]))); have HB5 : Hid (Below w.heap.size w w5) := hide (HBL.out.trans (HE5.out.mono hzw)); obtain ⟨p5, c5, rfl⟩ := owns_shape HO5.out; clear hown5 hgr5 hat5)
          | ((fail_if_success (have := HO6)); at_builtin; refine wpList_append_own_at _ rfl (.tmp 22) (.tmp 26) 23 rfl wr.heap.size 2 i0 (.int .i64 0) 1 8 Try.underlying23 HI.out.1 HI.out.2.1 HI.out.2.2.1 HI.out.2.2.2 rfl (by decide) (.slice p5 k c5) k (numV (t.take k)) rfl HO5.out ⟨b, o, none⟩ 0 0 (numV (t.drop (k + 1))) rfl (by rw [numV_len, HDK.out]; simp) (fun j u hj => by obtain ⟨hj', e⟩ := numV_get hj; rw [HDK.out] at hj'; omega) (numV_one _) (by unfold maxLen; omega) (by omega) (by have := HE5.out.size; omega) ?_; intro v6 w6 hown6 hgr6 _ hat6; have HO6 : Hid (NumOwn w6 wr.heap.size v6 (turnT t k [])) := hide (by rw [HTN.out]; exact num_app HTK.out (HDK.out.trans (by simp)) hown6); have HE6 : Hid (Below wr.heap.size wr w6) := hide (HE5.out.trans ((grownBy_apart hgr6).below HE5.out.size (owns_fresh HO5.out).lo)); obtain ⟨p6, c6, hv6⟩ := owns_shape HO6.out; obtain ⟨N6, hN6⟩ : ∃ N6, (turnT t k []).length = N6 := ⟨_, rfl⟩; rw [hN6] at hv6; subst hv6; clear hown6 hgr6 hat6 hN6)
          | (at_builtin; refine wpList_append_own_at _ rfl (.tmp 21) (.tmp 28) 27 rfl w.heap.size 23 i1 (.slice none 0 0) 1 24 Try.underlying27 HJ.out.1 HJ.out.2.1 HJ.out.2.2.1 HJ.out.2.2.2 rfl (by decide) (.slice dp V dc) V us rfl (by have := ((HRR.out.keep HE6.out).keep (malloc1 w6 (.cells #[.slice p6 N6 c6] 23))).own; rw [HV.out] at this; exact this) ⟨w6.heap.size, 0, none⟩ 1 1 [.slice p6 N6 c6] rfl rfl (fun j u hj => new_rowr w6 [.slice p6 N6 c6] _ _ rfl j u hj) (by intro u hu; simp at hu; subst hu; rfl) (by unfold maxLen; omega) (by omega) (by have := HE6.out.size; simp; omega) ?_; intro v7 w7 hown7 hgr7 _ hat7; have HM7 := hide (rro_push (HRR.out.keep HE6.out) (u := .slice p6 N6 c6) (l := turnT t k []) (owns_down HO6.out hzw) (fun bb hbb => ⟨fun hm => by have h1 := (owns_fresh HO6.out).lo bb hbb; have h2 := (owns_fresh HRR.out.own).hi bb hm; omega, fun j u' hu' hm => by have h1 := (owns_fresh HO6.out).lo bb hbb; obtain ⟨l', _, hr'⟩ := HRR.out.row hu'; have h2 := (owns_fresh hr').hi bb hm; omega⟩) _ (by rw [HV.out]; exact hown7) (by rw [HV.out]; exact hgr7) (by rw [HV.out]; exact hat7)); obtain ⟨p7, c7, rfl⟩ := owns_shape hown7; clear hown7 hgr7 hat7))
        go_roundw
        case rel =>
          refine ⟨k + 1, us ++ [.slice p6 N6 c6], hlt, by go_num, ?_, ?_⟩
          · rw [HST.out]
            exact HM7.out.1
          · exact (HBL.out.trans (HE6.out.mono hzw)).trans (HM7.out.2.below (by have := HE6.out.size; omega) (owns_fresh HRR.out.own).lo)
        case measure => simp [intOf] <;> omega
      · go_wp2_with (first
          | ((fail_if_success (have := HO5)); at_builtin; refine wpList_append_own_at _ rfl (.tmp 16) (.tmp 19) 23 rfl wr.heap.size 2 i0 (.int .i64 0) 1 8 Try.underlying23 HI.out.1 HI.out.2.1 HI.out.2.2.1 HI.out.2.2.2 rfl (by decide) (.slice (some ⟨wr.heap.size, 0, none⟩) 0 0) 0 [] rfl (owns_empty _ _ _ _ _ (Nat.le_refl _) (mheap_new _ _ _ rfl)) ⟨b, o, none⟩ k cap (numV (t.take k)) rfl (by rw [numV_len, HTK.out]) (fun j u hj => by obtain ⟨hj', e⟩ := numV_get hj; rw [addr_to, e]; exact (HNUM.out _ (HBL.out.trans ((malloc1 wr _).mono hzw))).take k j hj') (numV_one _) (by unfold maxLen; omega) (by omega) (by simp) ?_; intro v5 w5 hown5 hgr5 _ hat5; have HO5 : Hid (w5.ownsRow wr.heap.size 2 1 v5 k (numV (t.take k))) := hide (by have := hown5; rw [Nat.zero_add, List.nil_append] at this; exact this); have HE5 : Hid (Below wr.heap.size wr w5) := hide ((malloc1 wr _).trans ((grownBy_apart hgr5).below (by simp) (by simp [vblocks, cellBlocks]))); have HB5 : Hid (Below w.heap.size w w5) := hide (HBL.out.trans (HE5.out.mono hzw)); obtain ⟨p5, c5, rfl⟩ := owns_shape HO5.out; clear hown5 hgr5 hat5)
          | ((fail_if_success (have := HO6)); at_builtin; refine wpList_append_own_at _ rfl (.tmp 22) (.tmp 26) 23 rfl wr.heap.size 2 i0 (.int .i64 0) 1 8 Try.underlying23 HI.out.1 HI.out.2.1 HI.out.2.2.1 HI.out.2.2.2 rfl (by decide) (.slice p5 k c5) k (numV (t.take k)) rfl HO5.out ⟨b, o + (k + 1), none⟩ (L - (k + 1)) (cap - (k + 1)) (numV (t.drop (k + 1))) rfl (by rw [numV_len, HDK.out]) (fun j u hj => by obtain ⟨hj', e⟩ := numV_get hj; rw [addr_to, e]; exact (HNUM.out _ HB5.out).drop (k + 1) j hj') (numV_one _) (by unfold maxLen; omega) (by omega) (by have := HE5.out.size; omega) ?_; intro v6 w6 hown6 hgr6 _ hat6; have HO6 : Hid (NumOwn w6 wr.heap.size v6 (turnT t k [])) := hide (by rw [HTN.out]; exact num_app HTK.out HDK.out hown6); have HE6 : Hid (Below wr.heap.size wr w6) := hide (HE5.out.trans ((grownBy_apart hgr6).below HE5.out.size (owns_fresh HO5.out).lo)); obtain ⟨p6, c6, hv6⟩ := owns_shape HO6.out; obtain ⟨N6, hN6⟩ : ∃ N6, (turnT t k []).length = N6 := ⟨_, rfl⟩; rw [hN6] at hv6; subst hv6; clear hown6 hgr6 hat6 hN6)
          | (at_builtin; refine wpList_append_own_at _ rfl (.tmp 21) (.tmp 28) 27 rfl w.heap.size 23 i1 (.slice none 0 0) 1 24 Try.underlying27 HJ.out.1 HJ.out.2.1 HJ.out.2.2.1 HJ.out.2.2.2 rfl (by decide) (.slice dp V dc) V us rfl (by have := ((HRR.out.keep HE6.out).keep (malloc1 w6 (.cells #[.slice p6 N6 c6] 23))).own; rw [HV.out] at this; exact this) ⟨w6.heap.size, 0, none⟩ 1 1 [.slice p6 N6 c6] rfl rfl (fun j u hj => new_rowr w6 [.slice p6 N6 c6] _ _ rfl j u hj) (by intro u hu; simp at hu; subst hu; rfl) (by unfold maxLen; omega) (by omega) (by have := HE6.out.size; simp; omega) ?_; intro v7 w7 hown7 hgr7 _ hat7; have HM7 := hide (rro_push (HRR.out.keep HE6.out) (u := .slice p6 N6 c6) (l := turnT t k []) (owns_down HO6.out hzw) (fun bb hbb => ⟨fun hm => by have h1 := (owns_fresh HO6.out).lo bb hbb; have h2 := (owns_fresh HRR.out.own).hi bb hm; omega, fun j u' hu' hm => by have h1 := (owns_fresh HO6.out).lo bb hbb; obtain ⟨l', _, hr'⟩ := HRR.out.row hu'; have h2 := (owns_fresh hr').hi bb hm; omega⟩) _ (by rw [HV.out]; exact hown7) (by rw [HV.out]; exact hgr7) (by rw [HV.out]; exact hat7)); obtain ⟨p7, c7, rfl⟩ := owns_shape hown7; clear hown7 hgr7 hat7))
        go_roundw
        case rel =>
          refine ⟨k + 1, us ++ [.slice p6 N6 c6], hlt, by go_num, ?_, ?_⟩
          · rw [HST.out]
            exact HM7.out.1
          · exact (HBL.out.trans (HE6.out.mono hzw)).trans (HM7.out.2.below (by have := HE6.out.size; omega) (owns_fresh HRR.out.own).lo)
        case measure => simp [intOf] <;> omega
    · obtain rfl : L = k := by omega
      have HST : Hid (smallTo t 1 = smallTo t 0 ++ passTo 0 t L) := hide (by rw [small_succ, HL.out])
      go_wp2_with fail
      go_loopw [3, 6] (fun cv i wr => ∃ (k : Nat) (us : List Value), k ≤ L ∧ i = .int .i64 k ∧ RRO wr w.heap.size cv us (smallTo t 1 ++ passTo 1 t k) ∧ Below w.heap.size w wr) (fun _ i _ => L - (intOf i).toNat)
      case atStart => exact ⟨0, us, Nat.zero_le _, rfl, by rw [show passTo 1 t 0 = [] from rfl, List.append_nil, HST.out, ← HV.out]; exact HRR.out, HBL.out⟩
      case round =>
        obtain ⟨k, us, hk, rfl, hrro, hbel⟩ := hrel
        have HRR := hide hrro
        have HBL := hide hbel
        have hzw := hbel.size
        obtain ⟨dp, dc, hdv⟩ := owns_shape hrro.own
        subst hdv
        have hul : us.length ≤ 100 := by rw [hrro.len]; exact HSL.out 1 k (by omega) (by rw [HL.out]; exact hk)
        obtain ⟨V, hV⟩ : ∃ V, us.length = V := ⟨_, rfl⟩
        rw [hV] at hul ⊢
        have HV := hide hV
        clear hrro hbel hV
        by_cases hlt : k < L
        · have hkt : k < t.length := by rw [HL.out]; exact hlt
          obtain ⟨x, hx⟩ : ∃ x, t[k]? = some x := ⟨t[k], List.getElem?_eq_getElem hkt⟩
          obtain ⟨hx0, hx1⟩ := tape_num HQ.out hx
          obtain ⟨b, o, rfl, hbB, hnums⟩ := HR.out (fun e => by rw [e] at hkt; simp at hkt)
          have c0 := (hnums.carry hbB HBL.out) k hkt
          rw [(List.getElem?_eq_some_iff.1 hx).2] at c0
          have HON := hide (one_if (n := 1) (by omega) hx)
          have hbw : b < wr.heap.size := Nat.lt_of_lt_of_le hbB hzw
          have HNUM : Hid (∀ W, Below w.heap.size w W → Nums W b o t) := hide (fun W hW => hnums.carry hbB hW)
          clear hnums hx
          by_cases hgt : 0 < x
          · have HST : Hid (smallTo t 1 ++ passTo 1 t (k + 1) = smallTo t 1 ++ passTo 1 t k ++ [turnT t k [0]]) := hide (by rw [pass_succ, HON.out, if_pos (by omega), List.append_assoc]; rfl)
            have HWI : Hid (Calls Try.prog 28 #[.slice (some ⟨b, o, none⟩) L cap, .int .i64 k, .int .i64 0] wr fun e w' => ∃ v, e = .returned v ∧ NumOwn w' wr.heap.size v (turnT t k [0]) ∧ Below wr.heap.size wr w') := hide (by
              have := s_with t k b o cap 0 wr hkt (by rw [HL.out]; exact h12) hbw (HNUM.out wr HBL.out)
              rw [HL.out] at this
              exact this)
            go_wp2_with (first
              | (go_at_call 28; refine HWI.out.mono ?_; rintro e w6 ⟨v6, rfl, ho6, hb6⟩; have HO6 := hide ho6; have HE6 := hide hb6; obtain ⟨p6, c6, hv6⟩ := owns_shape ho6; obtain ⟨N6, hN6⟩ : ∃ N6, (turnT t k [0]).length = N6 := ⟨_, rfl⟩; rw [hN6] at hv6; subst hv6; clear ho6 hb6 hN6)
              | (at_builtin; refine wpList_append_own_at _ rfl (.tmp 41) (.tmp 45) 27 rfl w.heap.size 23 i1 (.slice none 0 0) 1 24 Try.underlying27 HJ.out.1 HJ.out.2.1 HJ.out.2.2.1 HJ.out.2.2.2 rfl (by decide) (.slice dp V dc) V us rfl (by have := ((HRR.out.keep HE6.out).keep (malloc1 w6 (.cells #[.slice p6 N6 c6] 23))).own; rw [HV.out] at this; exact this) ⟨w6.heap.size, 0, none⟩ 1 1 [.slice p6 N6 c6] rfl rfl (fun j u hj => new_rowr w6 [.slice p6 N6 c6] _ _ rfl j u hj) (by intro u hu; simp at hu; subst hu; rfl) (by unfold maxLen; omega) (by omega) (by have := HE6.out.size; simp; omega) ?_; intro v7 w7 hown7 hgr7 _ hat7; have HM7 := hide (rro_push (HRR.out.keep HE6.out) (u := .slice p6 N6 c6) (l := turnT t k [0]) (owns_down HO6.out hzw) (fun bb hbb => ⟨fun hm => by have h1 := (owns_fresh HO6.out).lo bb hbb; have h2 := (owns_fresh HRR.out.own).hi bb hm; omega, fun j u' hu' hm => by have h1 := (owns_fresh HO6.out).lo bb hbb; obtain ⟨l', _, hr'⟩ := HRR.out.row hu'; have h2 := (owns_fresh hr').hi bb hm; omega⟩) _ (by rw [HV.out]; exact hown7) (by rw [HV.out]; exact hgr7) (by rw [HV.out]; exact hat7)); obtain ⟨p7, c7, rfl⟩ := owns_shape hown7; clear hown7 hgr7 hat7))
            go_roundw
            case rel =>
              refine ⟨k + 1, us ++ [.slice p6 N6 c6], hlt, by go_num, ?_, ?_⟩
              · rw [HST.out]
                exact HM7.out.1
              · exact (HBL.out.trans (HE6.out.mono hzw)).trans (HM7.out.2.below (by have := HE6.out.size; omega) (owns_fresh HRR.out.own).lo)
            case measure => simp [intOf] <;> omega
          · have HST : Hid (smallTo t 1 ++ passTo 1 t (k + 1) = smallTo t 1 ++ passTo 1 t k) := hide (by rw [pass_succ, HON.out, if_neg (by omega), List.append_nil])
            go_wp2_with fail
            go_roundw
            case rel => exact ⟨k + 1, us, hlt, by go_num, by rw [HST.out, ← HV.out]; exact HRR.out, HBL.out⟩
            case measure => simp [intOf]; omega
        · obtain rfl : L = k := by omega
          have HST : Hid (smallTo t 2 = smallTo t 1 ++ passTo 1 t L) := hide (by rw [small_succ, HL.out])
          go_wp2_with fail
          go_loopw [3, 7] (fun cv i wr => ∃ (k : Nat) (us : List Value), k ≤ L ∧ i = .int .i64 k ∧ RRO wr w.heap.size cv us (smallTo t 2 ++ passTo 2 t k) ∧ Below w.heap.size w wr) (fun _ i _ => L - (intOf i).toNat)
          case atStart => exact ⟨0, us, Nat.zero_le _, rfl, by rw [show passTo 2 t 0 = [] from rfl, List.append_nil, HST.out, ← HV.out]; exact HRR.out, HBL.out⟩
          case round =>
            obtain ⟨k, us, hk, rfl, hrro, hbel⟩ := hrel
            have HRR := hide hrro
            have HBL := hide hbel
            have hzw := hbel.size
            obtain ⟨dp, dc, hdv⟩ := owns_shape hrro.own
            subst hdv
            have hul : us.length ≤ 100 := by rw [hrro.len]; exact HSL.out 2 k (by omega) (by rw [HL.out]; exact hk)
            obtain ⟨V, hV⟩ : ∃ V, us.length = V := ⟨_, rfl⟩
            rw [hV] at hul ⊢
            have HV := hide hV
            clear hrro hbel hV
            by_cases hlt : k < L
            · have hkt : k < t.length := by rw [HL.out]; exact hlt
              obtain ⟨x, hx⟩ : ∃ x, t[k]? = some x := ⟨t[k], List.getElem?_eq_getElem hkt⟩
              obtain ⟨hx0, hx1⟩ := tape_num HQ.out hx
              obtain ⟨b, o, rfl, hbB, hnums⟩ := HR.out (fun e => by rw [e] at hkt; simp at hkt)
              have c0 := (hnums.carry hbB HBL.out) k hkt
              rw [(List.getElem?_eq_some_iff.1 hx).2] at c0
              have HON := hide (one_if (n := 2) (by omega) hx)
              have hbw : b < wr.heap.size := Nat.lt_of_lt_of_le hbB hzw
              have HNUM : Hid (∀ W, Below w.heap.size w W → Nums W b o t) := hide (fun W hW => hnums.carry hbB hW)
              clear hnums hx
              by_cases hgt : 1 < x
              · have HST : Hid (smallTo t 2 ++ passTo 2 t (k + 1) = smallTo t 2 ++ passTo 2 t k ++ [turnT t k [x / 2]]) := hide (by rw [pass_succ, HON.out, if_pos (by omega), List.append_assoc]; rfl)
                have HWI : Hid (Calls Try.prog 28 #[.slice (some ⟨b, o, none⟩) L cap, .int .i64 k, .int .i64 (x / 2)] wr fun e w' => ∃ v, e = .returned v ∧ NumOwn w' wr.heap.size v (turnT t k [x / 2]) ∧ Below wr.heap.size wr w') := hide (by
                  have := s_with t k b o cap (x / 2) wr hkt (by rw [HL.out]; exact h12) hbw (HNUM.out wr HBL.out)
                  rw [HL.out] at this
                  exact this)
                have hqu : IntKind.i64.wrap (x.tdiv 2) = x / 2 := IntWalk.i64_quo x 2 (by omega)
                go_wp2_with (first
                  | (go_at_call 28; refine HWI.out.mono ?_; rintro e w6 ⟨v6, rfl, ho6, hb6⟩; have HO6 := hide ho6; have HE6 := hide hb6; obtain ⟨p6, c6, hv6⟩ := owns_shape ho6; obtain ⟨N6, hN6⟩ : ∃ N6, (turnT t k [x / 2]).length = N6 := ⟨_, rfl⟩; rw [hN6] at hv6; subst hv6; clear ho6 hb6 hN6)
                  | (at_builtin; refine wpList_append_own_at _ rfl (.tmp 58) (.tmp 67) 27 rfl w.heap.size 23 i1 (.slice none 0 0) 1 24 Try.underlying27 HJ.out.1 HJ.out.2.1 HJ.out.2.2.1 HJ.out.2.2.2 rfl (by decide) (.slice dp V dc) V us rfl (by have := ((HRR.out.keep HE6.out).keep (malloc1 w6 (.cells #[.slice p6 N6 c6] 23))).own; rw [HV.out] at this; exact this) ⟨w6.heap.size, 0, none⟩ 1 1 [.slice p6 N6 c6] rfl rfl (fun j u hj => new_rowr w6 [.slice p6 N6 c6] _ _ rfl j u hj) (by intro u hu; simp at hu; subst hu; rfl) (by unfold maxLen; omega) (by omega) (by have := HE6.out.size; simp; omega) ?_; intro v7 w7 hown7 hgr7 _ hat7; have HM7 := hide (rro_push (HRR.out.keep HE6.out) (u := .slice p6 N6 c6) (l := turnT t k [x / 2]) (owns_down HO6.out hzw) (fun bb hbb => ⟨fun hm => by have h1 := (owns_fresh HO6.out).lo bb hbb; have h2 := (owns_fresh HRR.out.own).hi bb hm; omega, fun j u' hu' hm => by have h1 := (owns_fresh HO6.out).lo bb hbb; obtain ⟨l', _, hr'⟩ := HRR.out.row hu'; have h2 := (owns_fresh hr').hi bb hm; omega⟩) _ (by rw [HV.out]; exact hown7) (by rw [HV.out]; exact hgr7) (by rw [HV.out]; exact hat7)); obtain ⟨p7, c7, rfl⟩ := owns_shape hown7; clear hown7 hgr7 hat7))
                go_roundw
                case rel =>
                  refine ⟨k + 1, us ++ [.slice p6 N6 c6], hlt, by go_num, ?_, ?_⟩
                  · rw [HST.out]
                    exact HM7.out.1
                  · exact (HBL.out.trans (HE6.out.mono hzw)).trans (HM7.out.2.below (by have := HE6.out.size; omega) (owns_fresh HRR.out.own).lo)
                case measure => simp [intOf] <;> omega
              · have HST : Hid (smallTo t 2 ++ passTo 2 t (k + 1) = smallTo t 2 ++ passTo 2 t k) := hide (by rw [pass_succ, HON.out, if_neg (by omega), List.append_nil])
                go_wp2_with fail
                go_roundw
                case rel => exact ⟨k + 1, us, hlt, by go_num, by rw [HST.out, ← HV.out]; exact HRR.out, HBL.out⟩
                case measure => simp [intOf]; omega
            · obtain rfl : L = k := by omega
              have HST : Hid (smallTo t 3 = smallTo t 2 ++ passTo 2 t L) := hide (by rw [small_succ, HL.out])
              go_wp2_with fail
              go_loopw [3, 8] (fun cv i wr => ∃ (k : Nat) (us : List Value), k ≤ L ∧ i = .int .i64 k ∧ RRO wr w.heap.size cv us (smallTo t 3 ++ passTo 3 t k) ∧ Below w.heap.size w wr) (fun _ i _ => L - (intOf i).toNat)
              case atStart => exact ⟨0, us, Nat.zero_le _, rfl, by rw [show passTo 3 t 0 = [] from rfl, List.append_nil, HST.out, ← HV.out]; exact HRR.out, HBL.out⟩
              case round =>
                obtain ⟨k, us, hk, rfl, hrro, hbel⟩ := hrel
                have HRR := hide hrro
                have HBL := hide hbel
                have hzw := hbel.size
                obtain ⟨dp, dc, hdv⟩ := owns_shape hrro.own
                subst hdv
                have hul : us.length ≤ 100 := by rw [hrro.len]; exact HSL.out 3 k (by omega) (by rw [HL.out]; exact hk)
                obtain ⟨V, hV⟩ : ∃ V, us.length = V := ⟨_, rfl⟩
                rw [hV] at hul ⊢
                have HV := hide hV
                clear hrro hbel hV
                by_cases hlt : k < L
                · have hkt : k < t.length := by rw [HL.out]; exact hlt
                  obtain ⟨x, hx⟩ : ∃ x, t[k]? = some x := ⟨t[k], List.getElem?_eq_getElem hkt⟩
                  obtain ⟨hx0, hx1⟩ := tape_num HQ.out hx
                  obtain ⟨b, o, rfl, hbB, hnums⟩ := HR.out (fun e => by rw [e] at hkt; simp at hkt)
                  have c0 := (hnums.carry hbB HBL.out) k hkt
                  rw [(List.getElem?_eq_some_iff.1 hx).2] at c0
                  have HON := hide (one_if (n := 3) (by omega) hx)
                  have hbw : b < wr.heap.size := Nat.lt_of_lt_of_le hbB hzw
                  have HNUM : Hid (∀ W, Below w.heap.size w W → Nums W b o t) := hide (fun W hW => hnums.carry hbB hW)
                  clear hnums hx
                  by_cases hgt : 2 < x
                  · have HST : Hid (smallTo t 3 ++ passTo 3 t (k + 1) = smallTo t 3 ++ passTo 3 t k ++ [turnT t k [x - 1]]) := hide (by rw [pass_succ, HON.out, if_pos (by omega), List.append_assoc]; rfl)
                    have HWI : Hid (Calls Try.prog 28 #[.slice (some ⟨b, o, none⟩) L cap, .int .i64 k, .int .i64 (x - 1)] wr fun e w' => ∃ v, e = .returned v ∧ NumOwn w' wr.heap.size v (turnT t k [x - 1]) ∧ Below wr.heap.size wr w') := hide (by
                      have := s_with t k b o cap (x - 1) wr hkt (by rw [HL.out]; exact h12) hbw (HNUM.out wr HBL.out)
                      rw [HL.out] at this
                      exact this)
                    go_wp2_with (first
                      | (go_at_call 28; refine HWI.out.mono ?_; rintro e w6 ⟨v6, rfl, ho6, hb6⟩; have HO6 := hide ho6; have HE6 := hide hb6; obtain ⟨p6, c6, hv6⟩ := owns_shape ho6; obtain ⟨N6, hN6⟩ : ∃ N6, (turnT t k [x - 1]).length = N6 := ⟨_, rfl⟩; rw [hN6] at hv6; subst hv6; clear ho6 hb6 hN6)
                      | (at_builtin; refine wpList_append_own_at _ rfl (.tmp 80) (.tmp 89) 27 rfl w.heap.size 23 i1 (.slice none 0 0) 1 24 Try.underlying27 HJ.out.1 HJ.out.2.1 HJ.out.2.2.1 HJ.out.2.2.2 rfl (by decide) (.slice dp V dc) V us rfl (by have := ((HRR.out.keep HE6.out).keep (malloc1 w6 (.cells #[.slice p6 N6 c6] 23))).own; rw [HV.out] at this; exact this) ⟨w6.heap.size, 0, none⟩ 1 1 [.slice p6 N6 c6] rfl rfl (fun j u hj => new_rowr w6 [.slice p6 N6 c6] _ _ rfl j u hj) (by intro u hu; simp at hu; subst hu; rfl) (by unfold maxLen; omega) (by omega) (by have := HE6.out.size; simp; omega) ?_; intro v7 w7 hown7 hgr7 _ hat7; have HM7 := hide (rro_push (HRR.out.keep HE6.out) (u := .slice p6 N6 c6) (l := turnT t k [x - 1]) (owns_down HO6.out hzw) (fun bb hbb => ⟨fun hm => by have h1 := (owns_fresh HO6.out).lo bb hbb; have h2 := (owns_fresh HRR.out.own).hi bb hm; omega, fun j u' hu' hm => by have h1 := (owns_fresh HO6.out).lo bb hbb; obtain ⟨l', _, hr'⟩ := HRR.out.row hu'; have h2 := (owns_fresh hr').hi bb hm; omega⟩) _ (by rw [HV.out]; exact hown7) (by rw [HV.out]; exact hgr7) (by rw [HV.out]; exact hat7)); obtain ⟨p7, c7, rfl⟩ := owns_shape hown7; clear hown7 hgr7 hat7))
                    go_roundw
                    case rel =>
                      refine ⟨k + 1, us ++ [.slice p6 N6 c6], hlt, by go_num, ?_, ?_⟩
                      · rw [HST.out]
                        exact HM7.out.1
                      · exact (HBL.out.trans (HE6.out.mono hzw)).trans (HM7.out.2.below (by have := HE6.out.size; omega) (owns_fresh HRR.out.own).lo)
                    case measure => simp [intOf] <;> omega
                  · have HST : Hid (smallTo t 3 ++ passTo 3 t (k + 1) = smallTo t 3 ++ passTo 3 t k) := hide (by rw [pass_succ, HON.out, if_neg (by omega), List.append_nil])
                    go_wp2_with fail
                    go_roundw
                    case rel => exact ⟨k + 1, us, hlt, by go_num, by rw [HST.out, ← HV.out]; exact HRR.out, HBL.out⟩
                    case measure => simp [intOf]; omega
                · obtain rfl : L = k := by omega
                  have HST : Hid (smallTo t 4 = smallTo t 3 ++ passTo 3 t L) := hide (by rw [small_succ, HL.out])
                  go_wp2_with fail
                  go_ret
                  refine ⟨_, us, rfl, ?_, HBL.out⟩
                  rw [HST.out, ← HV.out]
                  exact HRR.out
set_option maxRecDepth 100000 in
set_option maxHeartbeats 2000000 in
theorem s_smallerOf (t : List Int) (tv : Value) (w : World) (hv : NumSl w w.heap.size tv t) :
    Calls Try.prog 7 #[tv] w fun e w' => ∃ v us, e = .returned v ∧ RRO w' w.heap.size v us (smallB t) ∧ Below w.heap.size w w' := by
  obtain ⟨q, hq⟩ : ∃ q, tapeB t = q := ⟨_, rfl⟩
  have HTR : Hid (Calls Try.prog 10 #[tv] w fun e w' => e = .returned (.bool q) ∧ Below w.heap.size w w') := hide (by rw [← hq]; exact s_tape t tv w hv)
  have HSM : Hid (q = true → ∀ W, Below w.heap.size w W → Calls Try.prog 19 #[tv] W fun e w' => ∃ v us, e = .returned v ∧ RRO w' W.heap.size v us (smallTo t 4) ∧ Below W.heap.size W w') := hide (fun h W hW => s_l08Smaller t tv W (by rw [hq]; exact h) (hv.on hW))
  have HSB : Hid (smallB t = if q then smallTo t 4 else []) := hide (by unfold smallB; rw [hq])
  have HLG : Hid (400 < t.length → smallB t = []) := hide (fun h => by unfold smallB; rw [tape_long (by omega)]; rfl)
  have HEM : Hid (∀ (W : World) (b : Nat), b = W.heap.size → w.heap.size ≤ W.heap.size → RRO (W.alloc (.cells #[] 23)) w.heap.size (.slice (some ⟨b, 0, none⟩) 0 0) [] []) := hide (fun W b hb hW => ⟨owns_empty _ _ _ _ _ (by omega) (mheap_new _ _ _ hb), rfl, (fun j u l h => by simp at h), (fun j u h => by simp at h), (fun i j u u' h => by simp at h)⟩)
  obtain ⟨ao, cap, rfl, hc, hm, hr⟩ := hv
  obtain ⟨L, hL⟩ : ∃ L, t.length = L := ⟨_, rfl⟩
  rw [hL] at hm hc HTR HSM HLG ⊢
  clear hq hL hr
  by_cases h4 : 400 < L
  · go_enter Try.func7, Try.ntmps7
    go_wp2_with fail
    go_ret
    rw [HLG.out h4]
    first
      | exact ⟨_, [], rfl, HEM.out w _ rfl (Nat.le_refl _), malloc1 w _⟩
      | exact ⟨_, rfl, ⟨[], HEM.out w _ rfl (Nat.le_refl _)⟩, malloc1 w _⟩
  · cases q
    · go_enter Try.func7, Try.ntmps7
      go_wp2_with (go_at_call 10; refine HTR.out.mono ?_; rintro e w1 ⟨rfl, hb1⟩; have HB1 := hide hb1; clear hb1)
      go_ret
      rw [HSB.out]
      exact ⟨_, [], rfl, HEM.out w1 _ rfl HB1.out.size, HB1.out.trans ((malloc1 w1 _).mono HB1.out.size)⟩
    · go_enter Try.func7, Try.ntmps7
      go_wp2_with (first
        | (go_at_call 10; refine HTR.out.mono ?_; rintro e w1 ⟨rfl, hb1⟩; have HB1 := hide hb1; clear hb1)
        | (go_at_call 19; refine (HSM.out (by simp) _ HB1.out).mono ?_; rintro e w2 ⟨v2, us, rfl, hr2, hb2⟩; have HR2 := hide hr2; have HB2 : Hid (Below w.heap.size w w2) := hide (HB1.out.trans (hb2.mono HB1.out.size)); obtain ⟨p2, c2, rfl⟩ := owns_shape hr2.own; clear hr2 hb2))
      go_ret
      rw [HSB.out]
      exact ⟨_, us, rfl, HR2.out.down HB1.out.size, HB2.out⟩
end Go.Proofs.Ytehodjfgojcnlaa
