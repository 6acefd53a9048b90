/- SmallerOf of the program: the passes. -/
import Derived.Test.YtehodjfgojcnlaaSmK
namespace Go.Proofs.Ytehodjfgojcnlaa
open Go.RowKit
attribute [local go_sem ↓] Go.wp_at_zero Go.wp_at_succ
attribute [local go_sem] run_store_fn

theorem Try.infoI64s : (Try.prog.info? 23).map (fun i => (i.zero, i.size, i.bytes)) = some (some (.slice none 0 0), 1, 24) := by kernel_rfl
theorem add_to (g o j : Nat) : Addr.add ⟨g, o, none⟩ j = ⟨g, o + j, none⟩ := addr_to g o j
theorem new_rowr (w : World) (cs : List Value) (t : TypeId) (b : Nat) (hb : b = w.heap.size) (j : Nat) (u : Value) (h : cs[j]? = some u) : (w.alloc (.cells cs.toArray t)).cell? (Addr.add ⟨b, 0, none⟩ j) = some u := by subst hb; exact new_row1 w cs t j u h
set_option maxRecDepth 100000 in
set_option maxHeartbeats 4000000 in
theorem i_smallerOf (t : List Int) (tv : Value) (w : World) (hv : NumSl w w.heap.size tv t) :
    Calls Try.prog 6 #[tv] w fun e w' => ∃ v us, e = .returned v ∧ RRO w' w.heap.size v us (smallB t) ∧ Below w.heap.size w w' := by
  obtain ⟨i0, hi, hz0, hz1, hz2⟩ := info_parts Try.infoI64s
  have HI := hide (And.intro hi (And.intro hz0 (And.intro hz1 hz2)))
  obtain ⟨q, hq⟩ : ∃ q, tapeB t = q := ⟨_, rfl⟩
  have HTR : Hid (Calls Try.prog 16 #[tv] w fun e w' => e = .returned (.bool q) ∧ Below w.heap.size w w') := hide (by rw [← hq]; exact i_tape t tv w hv)
  have HQ := hide hq
  obtain ⟨ao, cap, rfl, hc, hm, hr⟩ := hv
  have HR := hide hr
  clear hi hz0 hz1 hz2 hr
  cases q
  · have HS : Hid (smallB t = []) := hide (by unfold smallB; rw [HQ.out]; rfl)
    go_enter Try.func6, Try.ntmps6
    go_wp2_with (go_at_call 16; refine HTR.out.mono ?_; rintro e w1 ⟨rfl, hb1⟩; have HB1 := hide hb1; clear hb1)
    go_ret
    rw [HS.out]
    exact ⟨_, [], rfl, rro_nil _ _, HB1.out⟩
  · have h12 := tape_len hq
    have HS : Hid (smallB t = smallTo t 4) := hide (by unfold smallB; rw [HQ.out]; rfl)
    have HSL : Hid (∀ n k, n < 4 → k ≤ t.length → (smallTo t n ++ passTo n t k).length ≤ 100) := hide (fun n k hn hk => by
      rw [List.length_append]
      have h1 := small_len t n
      have h2 := pass_len n t k
      have : n * t.length ≤ 3 * 12 := Nat.mul_le_mul (by omega) h12
      omega)
    obtain ⟨L, hL⟩ : ∃ L, t.length = L := ⟨_, rfl⟩
    rw [hL] at h12 hc HTR ⊢
    have HL := hide hL
    clear hq hL
    go_enter Try.func6, Try.ntmps6
    go_wp2_with (first
      | (go_at_call 16; refine HTR.out.mono ?_; rintro e w1 ⟨rfl, hb1⟩; have HB1 := hide hb1; clear hb1)
      | (go_at_call 17; refine (i_passes _).mono ?_; rintro e w2 ⟨rfl, hb2⟩; have HB2 : Hid (Below w.heap.size w w2) := hide (HB1.out.trans (hb2.mono HB1.out.size)); clear hb2; unfold passV))
    have HW2 : Hid (Below w.heap.size w (w2.alloc (.cells passV 40))) := hide (HB2.out.trans ((malloc1 w2 _).mono HB2.out.size))
    obtain ⟨ab, hab⟩ : ∃ ab, w2.heap.size = ab := ⟨_, rfl⟩
    have hwab : w.heap.size ≤ ab := by rw [← hab]; exact HB2.out.size
    have HPC : Hid (∀ (W : World) (n : Nat), Below (ab + 1) (w2.alloc (.cells passV 40)) W → n < 4 → W.cell? ⟨ab, n * 2, none⟩ = some (.int .i64 ((n : Int) - 1)) ∧ W.cell? ⟨ab, n * 2 + 1, none⟩ = some (.func (.func (passF n)) #[] #[])) := hide (fun W n hb hn => by
      obtain ⟨h1, h2⟩ := pass_cells hn
      have e : ∀ (j : Nat) (u : Value), passV[j]? = some u → (w2.alloc (.cells passV 40)).cell? ⟨ab, j, none⟩ = some u := fun j u hj => by
        have := new_rowr w2 passV.toList 40 ab hab.symm j u (by simpa using hj)
        rw [add_to, Nat.zero_add] at this
        exact this
      exact ⟨(hb.cell (p := ⟨ab, n * 2, none⟩) (by show ab < ab + 1; omega)).trans (e _ _ h1), (hb.cell (p := ⟨ab, n * 2 + 1, none⟩) (by show ab < ab + 1; omega)).trans (e _ _ h2)⟩)
    have HBZ : Hid ((w2.alloc (.cells passV 40)).heap.size = ab + 1) := hide (by simp [hab])
    have HBT : Hid (∀ W, Below (ab + 1) (w2.alloc (.cells passV 40)) W → Below w.heap.size w W) := hide (fun W hb => HW2.out.trans (hb.mono (by omega)))
    rw [hab]
    clear hab
    go_loopw [3, 12] (fun cv i wr => ∃ (n : Nat) (us : List Value), n ≤ 4 ∧ i = .int .i64 n ∧ RRO wr (ab + 1) cv us (smallTo t n) ∧ Below (ab + 1) (w2.alloc (.cells passV 40)) wr) (fun _ i _ => 4 - (intOf i).toNat)
    case atStart => exact ⟨0, [], Nat.zero_le _, rfl, rro_nil _ _, Below.refl _ _⟩
    case round =>
      obtain ⟨n, us, hn, rfl, hrro, hbel⟩ := hrel
      have HRR := hide hrro
      have HBL := hide hbel
      obtain ⟨cp, cc, hcv⟩ := owns_shape hrro.own
      subst hcv
      obtain ⟨U, hU⟩ : ∃ U, us.length = U := ⟨_, rfl⟩
      rw [hU]
      have HU := hide hU
      clear hrro hbel hU
      by_cases hn4 : n < 4
      · have hd4 : decide ((n : Int) < 4) = true := by simp; omega
        go_wp2_with fail
        go_loopw [3, 17] (fun cv i wr => ∃ (k : Nat) (us : List Value), k ≤ L ∧ i = .int .i64 k ∧ RRO wr (ab + 1) cv us (smallTo t n ++ passTo n t k) ∧ Below (ab + 1) (w2.alloc (.cells passV 40)) wr) (fun _ i _ => L - (intOf i).toNat)
        case atStart => exact ⟨0, us, Nat.zero_le _, rfl, by rw [show passTo n t 0 = [] from rfl, List.append_nil, ← HU.out]; exact HRR.out, HBL.out⟩
        case round =>
          obtain ⟨k, us2, hk, rfl, hrro2, hbel2⟩ := hrel
          have HR2 := hide hrro2
          have HB2' := hide hbel2
          have hz2 : ab + 1 ≤ wr.heap.size := by have := hbel2.size; rw [HBZ.out] at this; exact this
          obtain ⟨dp, dc, hdv⟩ := owns_shape hrro2.own
          subst hdv
          have hul : us2.length ≤ 100 := by rw [hrro2.len]; exact HSL.out n k hn4 (by rw [HL.out]; exact hk)
          obtain ⟨V, hV⟩ : ∃ V, us2.length = V := ⟨_, rfl⟩
          rw [hV] at hul ⊢
          have HV := hide hV
          obtain ⟨a1, a2⟩ := HPC.out wr n hbel2 hn4
          clear hrro2 hbel2 hV
          by_cases hlt : k < L
          · have hkt : k < t.length := by rw [HL.out]; exact hlt
            obtain ⟨x, hx⟩ : ∃ x, t[k]? = some x := ⟨t[k], List.getElem?_eq_getElem hkt⟩
            obtain ⟨hx0, hx1⟩ := tape_num HQ.out hx
            obtain ⟨b, o, rfl, hbB, hnums⟩ := HR.out (fun e => by rw [e] at hkt; simp at hkt)
            have c0 := (hnums.carry hbB (HBT.out wr HB2'.out)) k hkt
            rw [(List.getElem?_eq_some_iff.1 hx).2] at c0
            have HON := hide (one_if hn4 hx)
            have HNUM : Hid (∀ W, Below (ab + 1) (w2.alloc (.cells passV 40)) W → b < W.heap.size ∧ Nums W b o t) := hide (fun W hW => ⟨Nat.lt_of_lt_of_le hbB (HBT.out W hW).size, hnums.carry hbB (HBT.out W hW)⟩)
            clear hnums hx
            by_cases hgt : (n : Int) - 1 < x
            · have HST : Hid (smallTo t n ++ passTo n t (k + 1) = smallTo t n ++ passTo n t k ++ [turnT t k (insP n x)]) := hide (by rw [pass_succ, HON.out, if_pos hgt, List.append_assoc])
              have HPA := hide (put_any hn4 x wr hx0 hx1)
              have hcf := fun (W : World) (a : Value) => pass_call hn4 a W
              have HTU : Hid (∀ (W : World) (inv : Value), Below (ab + 1) (w2.alloc (.cells passV 40)) W → SrcAt W W.heap.size inv (insP n x) → Calls Try.prog 18 #[.slice (some ⟨b, o, none⟩) L cap, .int .i64 k, inv] W fun e w' => ∃ v, e = .returned v ∧ NumOwn w' W.heap.size v (turnT t k (insP n x)) ∧ Below W.heap.size W w') := hide (fun W inv hW hs => by
                have := turned_at t (insP n x) k b o cap inv W hkt (by rw [HL.out]; exact h12) (by rw [HL.out]; exact hc) (HNUM.out W hW).1 (HNUM.out W hW).2 hs (ins_len n x)
                rw [HL.out] at this
                exact this)
              go_wp2_with (first
                | (go_at_call 18; refine (HTU.out w5 _ HB5.out H5.out).mono ?_; rintro e w6 ⟨v6, rfl, ho6, hb6⟩; have HO6 := hide ho6; have HE6 := hide hb6; have HB6 : Hid (Below (ab + 1) (w2.alloc (.cells passV 40)) w6) := hide (HB5.out.trans (hb6.mono HZ5.out)); obtain ⟨p6, c6, hv6⟩ := owns_shape ho6; obtain ⟨N6, hN6⟩ : ∃ N6, (turnT t k (insP n x)).length = N6 := ⟨_, rfl⟩; rw [hN6] at hv6; subst hv6; clear ho6 hb6 hN6)
                | (at_builtin; refine wpList_append_own_at _ rfl (.tmp 28) (.tmp 38) 27 rfl (ab + 1) 23 i0 (.slice none 0 0) 1 24 Try.underlying27 HI.out.1 HI.out.2.1 HI.out.2.2.1 HI.out.2.2.2 rfl (by decide) (.slice dp V dc) V us2 rfl (by have := (((HR2.out.keep HE5.out).keep HE6.out).keep (malloc1 w6 (.cells #[.slice p6 N6 c6] 23))).own; rw [HV.out] at this; exact this) ⟨w6.heap.size, 0, none⟩ 1 1 [.slice p6 N6 c6] rfl rfl (fun j u hj => new_rowr w6 [.slice p6 N6 c6] _ _ rfl j u hj) (by intro u hu; simp at hu; subst hu; rfl) (by unfold maxLen; omega) (by omega) (by have := HE6.out.size; have := HE5.out.size; simp; omega) ?_; intro v7 w7 hown7 hgr7 _ hat7; have HM7 := hide (rro_push ((HR2.out.keep HE5.out).keep HE6.out) (u := .slice p6 N6 c6) (l := turnT t k (insP n x)) (owns_down HO6.out (by have := HE5.out.size; omega)) (fun bb hbb => ⟨fun hm => by have h1 := (owns_fresh HO6.out).lo bb hbb; have h2 := (owns_fresh (HR2.out.keep HE5.out).own).hi bb hm; omega, fun j u' hu' hm => by have h1 := (owns_fresh HO6.out).lo bb hbb; obtain ⟨l', _, hr'⟩ := (HR2.out.keep HE5.out).row hu'; have h2 := (owns_fresh hr').hi bb hm; omega⟩) _ (by rw [HV.out]; exact hown7) (by rw [HV.out]; exact hgr7) (by rw [HV.out]; exact hat7)); obtain ⟨p7, c7, rfl⟩ := owns_shape hown7; clear hown7 hgr7 hat7)
                | ((fail_if_success (have := H5)); refine Calls.mono HPA.out ?_; rintro e w5 ⟨u5, rfl, h5a, h5b⟩; have H5 := hide h5a; have HE5 := hide h5b; have HB5 : Hid (Below (ab + 1) (w2.alloc (.cells passV 40)) w5) := hide (HB2'.out.trans (h5b.mono hz2)); have HZ5 : Hid (ab + 1 ≤ w5.heap.size) := hide (Nat.le_trans hz2 h5b.size); obtain ⟨p5, c5, rfl⟩ := h5a.slice; obtain ⟨N5, hN5⟩ : ∃ N5, (insP n x).length = N5 := ⟨_, rfl⟩; rw [hN5]; rw [hN5] at H5; clear h5a h5b hN5))
              go_roundw
              case rel =>
                refine ⟨k + 1, us2 ++ [.slice p6 N6 c6], hlt, by go_num, ?_, ?_⟩
                · rw [HST.out]
                  have := HM7.out.1
                  exact this
                · refine HB6.out.trans (HM7.out.2.below (by have := HE6.out.size; have := HE5.out.size; omega) (fun bb hbb => ?_))
                  exact (owns_fresh HR2.out.own).lo bb hbb
              case measure => simp [intOf]; omega
            · have HST : Hid (smallTo t n ++ passTo n t (k + 1) = smallTo t n ++ passTo n t k) := hide (by rw [pass_succ, HON.out, if_neg hgt, List.append_nil])
              go_wp2_with fail
              go_roundw
              case rel => exact ⟨k + 1, us2, hlt, by go_num, by rw [HST.out, ← HV.out]; exact HR2.out, HB2'.out⟩
              case measure => simp [intOf]; omega
          · obtain rfl : k = L := by omega
            have HST : Hid (smallTo t (n + 1) = smallTo t n ++ passTo n t k) := hide (by rw [small_succ, HL.out])
            go_wp2_with fail
            go_roundw
            case rel => exact ⟨n + 1, us2, hn4, by go_num, by rw [HST.out, ← HV.out]; exact HR2.out, HB2'.out⟩
            case measure => simp [intOf]; omega
      · obtain rfl : n = 4 := by omega
        go_wp2_with fail
        go_ret
        rw [HS.out]
        refine ⟨_, us, rfl, ?_, HBT.out _ HBL.out⟩
        have := HRR.out.down (base' := w.heap.size) (by omega)
        rw [HU.out] at this
        exact this
end Go.Proofs.Ytehodjfgojcnlaa
