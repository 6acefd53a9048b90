/- Slices of numbers put together, of the library. -/
import Derived.Test.YtehodjfgojcnlaaSmM
namespace Go.Proofs.Ytehodjfgojcnlaa
open Go.RowKit
attribute [local go_sem ↓] Go.wp_at_zero Go.wp_at_succ

theorem addr_to (g o j : Nat) : Addr.add ⟨g, o, none⟩ j = ⟨g, o + j, none⟩ := by
  by_cases h : j = 0
  · subst h; rfl
  · simp [Addr.add, h]
set_option maxRecDepth 100000 in
set_option maxHeartbeats 1000000 in
theorem grow_nil (n : Nat) (w : World) (hn : n ≤ 1000) : Calls Try.prog 30 #[.slice none 0 0, .int .i64 n] w fun e w' => ∃ v, e = .returned v ∧ NumOwn w' w.heap.size v [] ∧ Below w.heap.size w w' := by
  obtain ⟨i0, hi, hz0, hz1, hz2⟩ := info_parts Try.infoI64
  by_cases h0 : n = 0
  · subst h0
    go_enter Try.func30, Try.ntmps30
    go_wp2_with fail
    go_ret
    exact ⟨_, rfl, owns_nil _ _ _ _, Below.refl _ _⟩
  · have hr := fun (W : World) (ty : TypeId) => Go.Lib.run_append_nil_zeros (P := Try.prog) W 23 3 ty 2 i0 (.int .i64 0) .i64 .i64 Try.underlying23 Try.underlying3 hi hz0 n (by omega) (by rw [hz1]; decide) (by omega) (by rw [hz2]; omega)
    have hpos : 0 < n := by omega
    have HR := hide hr
    obtain ⟨G, hG⟩ : ∃ G, grownCap w n 0 2 = G := ⟨_, rfl⟩
    have HG : Hid (n ≤ G ∧ G ≤ maxLen) := hide (by rw [← hG]; exact ⟨grownCap_ge w n 0 2, grownCap_le_maxLen w n 0 2 (by unfold maxLen; omega)⟩)
    clear hr hi hz0 hz1 hz2
    go_enter Try.func30, Try.ntmps30
    go_wp2_with (at_builtin; refine Go.Lib.wpList_append_run _ rfl (.tmp 20) (.tmp 21) 23 3 rfl (.slice none 0 0) (.int .i64 n) rfl rfl _ _ (HR.out _ _) ?_; rw [hG])
    go_ret
    refine ⟨_, rfl, ⟨rfl, .inr ⟨w.heap.size, G, _, rfl, Nat.le_refl _, mheap_new w _ _ rfl, Nat.zero_le _, HG.out.2, ?_, rfl⟩⟩, (malloc1 w _).drew⟩
    have := HG.out.1
    simp [size_zeroCells]
    omega
/-- a list of slices that are read -/
def SrcsAt (w : World) (B g : Nat) (us : List Value) (ls : List (List Int)) : Prop := us.length = ls.length ∧ g < B ∧ (∀ (j : Nat) (u : Value), us[j]? = some u → w.cell? ⟨g, j, none⟩ = some u) ∧ ∀ (j : Nat) (u : Value) (l : List Int), us[j]? = some u → ls[j]? = some l → SrcAt w B u l
theorem flat_le {ls : List (List Int)} (k : Nat) : (ls.take k).flatten.length ≤ ls.flatten.length := by
  conv => rhs; rw [← List.take_append_drop k ls, List.flatten_append, List.length_append]
  omega
theorem flat_take {ls : List (List Int)} {k : Nat} {l : List Int} (h : ls[k]? = some l) : (ls.take (k + 1)).flatten = (ls.take k).flatten ++ l := by
  rw [List.take_add_one, h, List.flatten_append]
  simp
theorem SrcAt.slice {w : World} {B : Nat} {u : Value} {l : List Int} (h : SrcAt w B u l) : ∃ p c, u = .slice p l.length c := by
  rcases h with ⟨rfl, rfl⟩ | ⟨b, o, c, e, -, -⟩
  · exact ⟨none, 0, rfl⟩
  · exact ⟨_, c, e⟩
set_option maxRecDepth 100000 in
set_option maxHeartbeats 2000000 in
theorem concat_nums (us : List Value) (ls : List (List Int)) (g c : Nat) (w : World) (hs : SrcsAt w w.heap.size g us ls) (hl : ls.length ≤ 10) (hf : ls.flatten.length ≤ 1000) :
    Calls Try.prog 27 #[.slice (some ⟨g, 0, none⟩) us.length c] w fun e w' => ∃ v, e = .returned v ∧ NumOwn w' w.heap.size v ls.flatten ∧ Below w.heap.size w w' := by
  obtain ⟨i0, hi, hz0, hz1, hz2⟩ := info_parts Try.infoI64
  have HI := hide (And.intro hi (And.intro hz0 (And.intro hz1 hz2)))
  obtain ⟨hlen, hgw, hcell, hsrc⟩ := hs
  have HC := hide hcell
  have HSR := hide hsrc
  have HF := hide hf
  obtain ⟨K, hK⟩ : ∃ K, us.length = K := ⟨_, rfl⟩
  have hK2 : ls.length = K := by rw [← hlen]; exact hK
  rw [hK2] at hl
  rw [hK]
  have HK := hide hK
  have HK2 := hide hK2
  clear hi hz0 hz1 hz2 hcell hsrc hK hK2 hlen hf
  go_enter Try.func27, Try.ntmps27
  go_wp2_with fail
  go_loopw [3, 11] (fun sv i wr => ∃ k : Nat, k ≤ K ∧ i = .int .i64 k ∧ sv = .int .i64 (((ls.take k).flatten.length : Nat) : Int) ∧ Below w.heap.size w wr) (fun _ i _ => K - (intOf i).toNat)
  case atStart => exact ⟨0, Nat.zero_le _, rfl, rfl, Below.refl _ _⟩
  case round =>
    obtain ⟨k, hk, rfl, rfl, hb⟩ := hrel
    have HB := hide hb
    clear hb
    by_cases hlt : k < K
    · obtain ⟨u, hu⟩ : ∃ u, us[k]? = some u := ⟨us[k]'(by rw [HK.out]; exact hlt), List.getElem?_eq_getElem _⟩
      obtain ⟨l, hll⟩ : ∃ l, ls[k]? = some l := ⟨ls[k]'(by rw [HK2.out]; exact hlt), List.getElem?_eq_getElem _⟩
      obtain ⟨p, cc, rfl⟩ := (HSR.out k u l hu hll).slice
      have c0 := (HB.out.cell (p := ⟨g, k, none⟩) hgw).trans (HC.out k _ hu)
      have HT := hide (flat_take hll)
      have hsum : (ls.take k).flatten.length + l.length ≤ 1000 := by
        have := flat_le (ls := ls) (k + 1)
        rw [flat_take hll, List.length_append] at this
        have := HF.out
        omega
      obtain ⟨X, hX⟩ : ∃ X, (ls.take k).flatten.length = X := ⟨_, rfl⟩
      rw [hX] at hsum ⊢
      have HX := hide hX
      clear hu hll hX
      go_wp2_with fail
      go_roundw
      case rel => exact ⟨k + 1, hlt, by go_num, by rw [HT.out, List.length_append, HX.out]; go_num, HB.out⟩
      case measure => simp [intOf]; omega
    · obtain rfl : k = K := by omega
      have HT : Hid ((ls.take k).flatten.length = ls.flatten.length) := hide (by rw [List.take_of_length_le (by rw [HK2.out]; exact Nat.le_refl _)])
      have hX9 : ls.flatten.length ≤ 1000 := HF.out
      rw [HT.out]
      obtain ⟨X, hX⟩ : ∃ X, ls.flatten.length = X := ⟨_, rfl⟩
      rw [hX] at hX9 ⊢
      clear hX
      go_wp2_with (go_at_call 30; refine (grow_nil X _ hX9).mono ?_; rintro e w2 ⟨v2, rfl, ho2, hb2⟩; have HO2 := hide ho2; have HW2 : Hid (Below w.heap.size w w2) := hide (HB.out.trans (hb2.mono HB.out.size)); have HZ := hide HB.out.size; obtain ⟨p2, c2, rfl⟩ := owns_shape ho2; clear ho2 hb2)
      go_loopw [6, 27] (fun nv i wr => ∃ k2 : Nat, k2 ≤ k ∧ i = .int .i64 k2 ∧ NumOwn wr w.heap.size nv (ls.take k2).flatten ∧ Below w.heap.size w wr) (fun _ i _ => k - (intOf i).toNat)
      case atStart => exact ⟨0, Nat.zero_le _, rfl, owns_down HO2.out HZ.out, HW2.out⟩
      case round =>
        obtain ⟨k2, hk2, rfl, ho, hb⟩ := hrel
        have HO := hide ho
        have HB2 := hide hb
        have hzw := hb.size
        obtain ⟨np, nc, hnv⟩ := owns_shape ho
        have hfl : (ls.take k2).flatten.length ≤ 1000 := by have := flat_le (ls := ls) k2; have := HF.out; omega
        obtain ⟨M, hM⟩ : ∃ M, (ls.take k2).flatten.length = M := ⟨_, rfl⟩
        rw [hM] at hnv hfl
        have HM := hide hM
        subst hnv
        clear ho hb hM
        by_cases hlt2 : k2 < k
        · obtain ⟨u, hu⟩ : ∃ u, us[k2]? = some u := ⟨us[k2]'(by rw [HK.out]; exact hlt2), List.getElem?_eq_getElem _⟩
          obtain ⟨l, hll⟩ : ∃ l, ls[k2]? = some l := ⟨ls[k2]'(by rw [HK2.out]; exact hlt2), List.getElem?_eq_getElem _⟩
          have hsr := HSR.out k2 u l hu hll
          have c0 := (HB2.out.cell (p := ⟨g, k2, none⟩) hgw).trans (HC.out k2 _ hu)
          have HT := hide (flat_take hll)
          have hsum : M + l.length ≤ 1000 := by
            have := flat_le (ls := ls) (k2 + 1)
            rw [flat_take hll, List.length_append, HM.out] at this
            have := HF.out
            omega
          have HOW : Hid (wr.ownsRow w.heap.size 2 1 (.slice np M nc) M (numV (ls.take k2).flatten)) := hide (by have := HO.out; unfold NumOwn at this; rw [HM.out] at this; exact this)
          rcases hsr with ⟨rfl, rfl⟩ | ⟨b, o, cu, rfl, hbB, hnums⟩
          · clear hu hll
            go_wp2_with (at_builtin; refine wpList_append_own_none rfl (.tmp 31) (.tmp 32) 23 rfl w.heap.size 2 i0 1 Try.underlying23 HI.out.1 (.slice np M nc) M (numV (ls.take k2).flatten) rfl HOW.out rfl ?_)
            go_roundw
            case rel => exact ⟨k2 + 1, hlt2, by go_num, by rw [HT.out, List.append_nil]; exact HO.out, HB2.out⟩
            case measure => simp [intOf]; omega
          · have HN := hide hnums
            obtain ⟨RL, hRL⟩ : ∃ RL, l.length = RL := ⟨_, rfl⟩
            rw [hRL] at hsum c0
            have HRL := hide hRL
            clear hu hll hnums hRL
            go_wp2_with (at_builtin; refine wpList_append_own _ rfl (.tmp 31) (.tmp 32) 23 rfl w.heap.size 2 i0 (.int .i64 0) 1 8 Try.underlying23 HI.out.1 HI.out.2.1 HI.out.2.2.1 HI.out.2.2.2 rfl (by decide) (.slice np M nc) M (numV (ls.take k2).flatten) rfl HOW.out ⟨b, o, none⟩ RL cu (numV l) rfl (by rw [numV_len, HRL.out]) (fun j u hj => by obtain ⟨hj', e⟩ := numV_get hj; rw [addr_to, e]; exact (HN.out.carry hbB HB2.out) j hj') (numV_one l) (by unfold maxLen; omega) (by omega) hzw ?_; intro v4 w4 hown4 hgr4 _; have HO4 := hide hown4; have HA4 : Hid (Below w.heap.size wr w4) := hide ((grownBy_apart hgr4).below hzw (owns_fresh HOW.out).lo); obtain ⟨p4, c4, rfl⟩ := owns_shape hown4; clear hown4 hgr4)
            go_roundw
            case rel =>
              refine ⟨k2 + 1, hlt2, by go_num, ?_, HB2.out.trans HA4.out⟩
              rw [HT.out]
              unfold NumOwn
              rw [List.length_append, HM.out, HRL.out, numV_app]
              exact HO4.out
            case measure => simp [intOf]; omega
        · obtain rfl : k2 = k := by omega
          have HE : Hid ((ls.take k2).flatten = ls.flatten) := hide (by rw [List.take_of_length_le (by rw [HK2.out]; exact Nat.le_refl _)])
          go_wp2_with fail
          go_ret
          refine ⟨_, rfl, ?_, HB2.out⟩
          rw [← HE.out]
          exact HO.out
end Go.Proofs.Ytehodjfgojcnlaa
