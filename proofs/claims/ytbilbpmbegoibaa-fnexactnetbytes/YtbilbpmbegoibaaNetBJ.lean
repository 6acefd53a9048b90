/- NetBytes of the program: the whole. -/
import Derived.Test.YtbilbpmbegoibaaNetBI
import Derived.Test.YtbilbpmbegoibaaStrRow
import Derived.Test.YtbilbpmbegoibaaTail1
namespace Go.Proofs.Ytbilbpmbegoibaa
open Go.RowKit
attribute [local go_sem ↓] Go.wp_at_zero Go.wp_at_succ

set_option maxRecDepth 100000 in
set_option maxHeartbeats 1000000 in
theorem i_netBytes (l : List RMsg) (v : Value) (w : World) (hok : ∀ m ∈ l, m.ok) (hv : RMsgSl w w.heap.size v l) :
    Calls Try.prog 23 #[v] w fun e w' => e = .returned (.string (netS l)) ∧ Below w.heap.size w w' := by
  have HOK := hide hok
  have HV := hide hv
  have hlm := hv.lenm
  obtain ⟨i0, hi, hz0, hz1, hz2⟩ := info_parts Try.infoStr
  have HI := hide (And.intro hi (And.intro hz0 (And.intro hz1 hz2)))
  obtain ⟨ao, cap, rfl, hc, hm, hr⟩ := hv
  have HR := hide hr
  obtain ⟨q, hq⟩ : ∃ q, netB l = q := ⟨_, rfl⟩
  have HQ := hide hq
  have HRES : Hid (netS l = if q then bytesN l else ByteArray.empty) := hide (by rw [netS, hq])
  clear hr hok hq hi hz0 hz1 hz2
  cases q
  · go_enter Try.func23, Try.ntmps23
    go_wp2_with (go_at_call 20; refine (i_net HQ.out _ _ HOK.out HV.out).mono ?_; rintro e w1 ⟨rfl, hb1⟩; have HB1 := hide hb1; clear hb1)
    go_ret
    exact ⟨ret_str HRES.out, HB1.out⟩
  · have h36 := net_len HQ.out
    go_enter Try.func23, Try.ntmps23
    go_wp2_with (first
      | (go_at_call 20; refine (i_net HQ.out _ _ HOK.out HV.out).mono ?_; rintro e w0 ⟨rfl, hb0⟩; have HB0 := hide hb0; clear hb0)
      | (go_at_call 47; refine (ip_put rfl _ ⟨by omega, by omega⟩).mono ?_; rintro e w1 ⟨rfl, hb1⟩; have HB1 := hide (HB0.out.trans (hb1.mono HB0.out.size)); clear hb1))
    refine wp_named (fun W1 hW1 => ?_)
    have hlW : w1.heap.size < W1.heap.size := by rw [hW1]; simp
    have HBW : Hid (Below w1.heap.size w1 W1) := hide (by rw [hW1]; exact malloc1 _ _)
    have HOW : Hid (W1.ownsRow w1.heap.size 9 1 (.slice (some ⟨w1.heap.size, 0, none⟩) 1 1) 1 (strV (partsN l 0))) := hide (by
      rw [hW1]
      exact ⟨rfl, .inr ⟨w1.heap.size, 1, #[.string (putS (l.length : Int))], rfl, Nat.le_refl _, mheap_new _ _ _ rfl, Nat.le_refl _, by unfold maxLen; omega, rfl, rfl⟩⟩)
    clear hW1
    go_loopw [3, 15] (fun all i wr => ∃ k : Nat, k ≤ l.length ∧ i = .int .i64 k ∧ wr.ownsRow w1.heap.size 9 1 all (1 + k) (strV (partsN l k)) ∧ Below w1.heap.size w1 wr) (fun _ i _ => l.length - (intOf i).toNat)
    case atStart => exact ⟨0, Nat.zero_le _, rfl, HOW.out, HBW.out⟩
    case round =>
      obtain ⟨k, hk, rfl, hown, hbel⟩ := hrel
      have HOWN := hide hown
      have HBEL := hide hbel
      have HWR : Hid (Below w.heap.size w wr) := hide (HB1.out.trans (hbel.mono HB1.out.size))
      obtain ⟨p, cp, rfl⟩ := owns_shape hown
      clear hown hbel
      by_cases hlt : k < l.length
      · obtain ⟨b, o, rfl, hbB, hrow⟩ := HR.out (by intro h; simp [h] at hlt)
        have hnode := (hrow.get k hlt).carry hbB HWR.out
        obtain ⟨x1, hx1⟩ : ∃ x1, x1 = l[k] := ⟨_, rfl⟩
        have hmem : x1 ∈ l := by rw [hx1]; exact List.getElem_mem hlt
        rw [← hx1] at hnode
        obtain ⟨d0, d1, d2, d3⟩ := hnode
        have HMR := hide (net_right HQ.out x1 hmem).1
        obtain ⟨s1, hs1⟩ : ∃ s, sealS (msgP x1) = s := ⟨_, rfl⟩
        obtain ⟨s2, hs2⟩ : ∃ s, textS s1 = s := ⟨_, rfl⟩
        have HNX : Hid (strV (partsN l (k + 1)) = strV (partsN l k) ++ [.string s2]) := hide (by rw [partsN_succ hlt, ← hx1, msgW, hs1, hs2]; simp [strV])
        have HL1 := hide (show s1.size ≤ maxLen by have := msgP_size HMR.out; rw [← hs1, seal_size (by omega)]; unfold maxLen; omega)
        have HS1 := hide hs1
        have HS2 := hide hs2
        clear hx1 hrow hmem hs1 hs2
        go_wp2_with (first
          | (go_at_call 49; refine (sealed_msg (m := x1) HS1.out HMR.out _).mono ?_; rintro e w2 ⟨rfl, hb2⟩; have HB2 : Hid (Below wr.heap.size wr w2) := hide ((malloc1 _ _).trans (hb2.mono (by simp))); clear hb2)
          | (go_at_call 48; refine (ip_text HS2.out _ HL1.out).mono ?_; rintro e w3 ⟨rfl, hb3⟩; have HB3 : Hid (Below wr.heap.size wr w3) := hide (HB2.out.trans (hb3.mono HB2.out.size)); clear hb3)
          | (at_builtin; refine wpList_append_own _ rfl (.tmp 19) (.tmp 23) 76 rfl w1.heap.size 9 i0 (.string ByteArray.empty) 1 16 Try.underlying76 HI.out.1 HI.out.2.1 HI.out.2.2.1 HI.out.2.2.2 rfl (by decide) (.slice p (1 + k) cp) (1 + k) (strV (partsN l k)) rfl (owns_below HOWN.out (HB3.out.trans ((malloc1 _ _).mono HB3.out.size))) ⟨w3.heap.size, 0, none⟩ 1 1 [.string s2] rfl rfl (fun j u hj => new_row1 _ _ _ j u hj) (strV_one [s2]) (by unfold maxLen; omega) (by omega) (by have := HB3.out.size; have := HBEL.out.size; simp; omega) ?_; intro v4 w4 hown4 hgr4 _; have HOWN4 := hide hown4; have HGR4 := hide hgr4; clear hown4 hgr4))
        go_roundw
        case rel =>
          have hA : Apart wr w4 (vblocks (.slice p (1 + k) cp)) := by
            have := (below_apart (HB3.out.trans ((malloc1 w3 _).mono HB3.out.size))).trans (grownBy_apart HGR4.out)
            rwa [List.nil_append] at this
          refine ⟨k + 1, hlt, by go_num, ?_, HBEL.out.trans (hA.below HBEL.out.size (owns_fresh HOWN.out).lo)⟩
          rw [HNX.out, show 1 + (k + 1) = 1 + k + 1 by omega]
          exact HOWN4.out
        case measure => simp [intOf]; omega
      · have HK : Hid (k = l.length) := hide (by omega)
        obtain ⟨g, c, hgc, hg, hcell⟩ := owns_some HOWN.out (by omega)
        obtain ⟨rfl, rfl⟩ : p = some ⟨g, 0, none⟩ ∧ cp = c := by simpa using hgc
        have HTOT : Hid (totTo (partsN l k) (partsN l k).length ≤ 1000000 ∧ (partsN l k).length ≤ 1000) := hide (by
          have h1 := partsN_tot HQ.out hk
          have h2 := partsN_len l k hk
          refine ⟨?_, by omega⟩
          rw [totTo, List.take_length]
          omega)
        have HLE : Hid ((partsN l k).length = 1 + k) := hide (partsN_len l k hk)
        have HCL : Hid (∀ i (h : i < (partsN l k).length), wr.cell? ⟨g, i, none⟩ = some (.string (partsN l k)[i])) := hide (fun i h => hcell i _ (by simp [strV, h]))
        clear hgc hcell
        go_wp2_with (go_at_call 50; have hjn := join_any (partsN l k) g cp wr hg HCL.out HTOT.out.1 HTOT.out.2; rw [HLE.out] at hjn; refine hjn.mono ?_; rintro e w5 ⟨rfl, hb5⟩; have HB5 := hide hb5; clear hb5 hjn)
        go_ret
        exact ⟨ret_str (by rw [HRES.out, HK.out]; rfl), HWR.out.trans (HB5.out.mono HWR.out.size)⟩
end Go.Proofs.Ytbilbpmbegoibaa
