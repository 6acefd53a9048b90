/- NetBytes of the specification. -/
import Derived.Test.YtpbaljoindljnaaNetBM
import Derived.Deep.DrawnRows
namespace Go.Proofs.Ytpbaljoindljnaa
open Go.RowKit
attribute [local go_sem ↓] Go.wp_at_zero Go.wp_at_succ

set_option maxRecDepth 100000 in
set_option maxHeartbeats 1000000 in
theorem s_netBytes (l : List RMsg) (v : Value) (w : World) (hok : ∀ m ∈ l, m.ok) (hv : RMsgSl w w.heap.size v l) :
    Calls Try.prog 16 #[v] w fun e w' => e = .returned (.string (netS l)) ∧ Below w.heap.size w w' := by
  have HOK := hide hok
  have HV := hide hv
  have hlm := hv.lenm
  obtain ⟨ao, cap, rfl, hc, hm, hr⟩ := hv
  have HR := hide hr
  obtain ⟨q, hq⟩ : ∃ q, netB l = q := ⟨_, rfl⟩
  have HQ := hide hq
  have HRES : Hid (netS l = if q then bytesN l else ByteArray.empty) := hide (by rw [netS, hq])
  clear hr hok hq
  by_cases h4 : 400 < l.length
  · have hqf : q = false := by rw [← HQ.out]; exact net_long (by omega)
    subst hqf
    go_enter Try.func16, Try.ntmps16
    go_wp2_with fail
    go_ret
    exact ⟨ret_str HRES.out, Below.refl _ _⟩
  · cases q
    · go_enter Try.func16, Try.ntmps16
      go_wp2_with (go_at_call 12; refine (s_net HQ.out _ _ HOK.out HV.out).mono ?_; rintro e w1 ⟨rfl, hb1⟩; have HB1 := hide hb1; clear hb1)
      go_ret
      exact ⟨ret_str HRES.out, HB1.out⟩
    · have h36 := net_len HQ.out
      have HTOT : Hid (∀ k, k ≤ l.length → (joinS (partsN l k)).size ≤ 4440) := hide (fun k hk => by rw [joinS_size]; exact partsN_tot HQ.out hk)
      go_enter Try.func16, Try.ntmps16
      go_wp2_with (first
        | (go_at_call 12; refine (s_net HQ.out _ _ HOK.out HV.out).mono ?_; rintro e w1 ⟨rfl, hb1⟩; have HB1 := hide hb1; clear hb1)
        | (go_at_call 30; refine (sp_put rfl _ ⟨by omega, by omega⟩).mono ?_; rintro e w2 ⟨rfl, hb2⟩; have HB2 := hide (HB1.out.trans (hb2.mono HB1.out.size)); clear hb2))
      go_loopw [3, 4] (fun tv i wr => ∃ k : Nat, k ≤ l.length ∧ i = .int .i64 k ∧ tv = .string (joinS (partsN l k)) ∧ Below w.heap.size w wr) (fun _ i _ => l.length - (intOf i).toNat)
      case atStart => exact ⟨0, Nat.zero_le _, rfl, by simp only [partsN, List.take_zero, List.map_nil]; rw [joinS_one], HB2.out⟩
      case round =>
        obtain ⟨k, hk, rfl, rfl, hbel⟩ := hrel
        have HBEL := hide hbel
        have hacs := HTOT.out k hk
        clear hbel
        by_cases hlt : k < l.length
        · obtain ⟨b, o, rfl, hbB, hrow⟩ := HR.out (by intro h; simp [h] at hlt)
          have hnode := (hrow.get k hlt).carry hbB HBEL.out
          obtain ⟨x1, hx1⟩ : ∃ x1, x1 = l[k] := ⟨_, rfl⟩
          have hmem : x1 ∈ l := by rw [hx1]; exact List.getElem_mem hlt
          rw [← hx1] at hnode
          obtain ⟨d0, d1, d2, d3⟩ := hnode
          have hmr := (net_right HQ.out x1 hmem).1
          obtain ⟨n1, n2, n3, n4, n5⟩ := msg_name hmr
          have HSO := hide (show -9223372036854775808 ≤ x1.sort ∧ x1.sort ≤ 9223372036854775807 from ⟨by omega, by omega⟩)
          have hz := msgP_size hmr
          obtain ⟨s1, hs1⟩ : ∃ s, textS x1.frm = s := ⟨_, rfl⟩
          obtain ⟨s2, hs2⟩ : ∃ s, textS x1.to = s := ⟨_, rfl⟩
          obtain ⟨s3, hs3⟩ : ∃ s, textS x1.label = s := ⟨_, rfl⟩
          obtain ⟨s4, hs4⟩ : ∃ s, putS x1.sort = s := ⟨_, rfl⟩
          have hz1 : s1.size ≤ 30 := by rw [← hs1]; exact textS_size _ (name_short n1)
          have hz2 : s2.size ≤ 30 := by rw [← hs2]; exact textS_size _ (name_short n2)
          have hz3 : s3.size ≤ 30 := by rw [← hs3]; exact textS_size _ (name_short n3)
          have hz4 : s4.size ≤ 10 := by rw [← hs4]; exact putS_size _
          have hP : msgP x1 = s1 ++ s2 ++ s3 ++ s4 := by rw [msgP, join_four, hs1, hs2, hs3, hs4]
          obtain ⟨s5, hs5⟩ : ∃ s, sealS (s1 ++ s2 ++ s3 ++ s4) = s := ⟨_, rfl⟩
          obtain ⟨s6, hs6⟩ : ∃ s, textS s5 = s := ⟨_, rfl⟩
          have hz5 : s5.size ≤ 104 := by rw [← hs5, ← hP, seal_size (by omega)]; omega
          have hz6 : s6.size ≤ 120 := by rw [← hs6]; have := textS_more (s := s5) (by omega); omega
          have HNX : Hid (joinS (partsN l (k + 1)) = joinS (partsN l k) ++ s6) := hide (by rw [partsN_succ hlt, joinS_app, ← hx1, joinS_one, msgW, hP, hs5, hs6])
          have HS1 := hide hs1
          have HS2 := hide hs2
          have HS3 := hide hs3
          have HS4 := hide hs4
          have HS5 := hide hs5
          have HS6 := hide hs6
          have HL1 := hide (show x1.frm.size ≤ maxLen by have := name_short n1; unfold maxLen; omega)
          have HL2 := hide (show x1.to.size ≤ maxLen by have := name_short n2; unfold maxLen; omega)
          have HL3 := hide (show x1.label.size ≤ maxLen by have := name_short n3; unfold maxLen; omega)
          have HL5 := hide (show (s1 ++ s2 ++ s3 ++ s4).size ≤ maxLen by rw [← hP]; unfold maxLen; omega)
          have HL6 := hide (show s5.size ≤ maxLen by unfold maxLen; omega)
          obtain ⟨acc, hacc⟩ : ∃ acc, joinS (partsN l k) = acc := ⟨_, rfl⟩
          rw [hacc] at hacs ⊢
          have HACC := hide hacc
          have hq1 : ¬ 9223372036854775807 < s1.size + s2.size := by omega
          have hq2 : ¬ 9223372036854775807 < s1.size + s2.size + s3.size := by omega
          have hq3 : ¬ 9223372036854775807 < s1.size + s2.size + s3.size + s4.size := by omega
          have hq4 : ¬ 9223372036854775807 < acc.size + s6.size := by omega
          clear hx1 hrow hmem hs1 hs2 hs3 hs4 hs5 hs6 hacc n1 n2 n3 n4 n5 hmr hz hP
          go_wp2_with fail
          refine wp_region_grown (by kernel_rfl) (by kernel_rfl) (fun W hW => ?_)
          have hne := grown_some W
          have k0 := grown_cell (w := W) (by rw [hW]; exact d0)
          have k1 := grown_cell (w := W) (by rw [hW]; exact d1)
          have k2 := grown_cell (w := W) (by rw [hW]; exact d2)
          have k3 := grown_cell (w := W) (by rw [hW]; exact d3)
          have HWE := hide hW
          clear hW
          repeat (go_big_quiet_step (first
            | (go_at_call_of 31 x1.frm; exact grown_more (sp_text HS1.out _ HL1.out))
            | (go_at_call_of 31 x1.to; exact grown_more (sp_text HS2.out _ HL2.out))
            | (go_at_call_of 31 x1.label; exact grown_more (sp_text HS3.out _ HL3.out))
            | (go_at_call_of 31 s5; exact grown_more (sp_text HS6.out _ HL6.out))
            | (go_at_call 30; exact grown_more (sp_put HS4.out _ HSO.out))
            | (go_at_call 32; exact grown_more (sp_seal HS5.out _ HL5.out))))
          refine wpQuiet_nil ?_
          intro w3 hw3
          have HB3 : Hid (Below wr.heap.size wr w3) := hide (by rw [HWE.out] at hw3; exact hw3)
          clear hw3 hne k0 k1 k2 k3 HWE
          go_wp2_with fail
          go_roundw
          case rel => exact ⟨k + 1, hlt, by go_num, by rw [HNX.out, HACC.out], HBEL.out.trans (HB3.out.mono HBEL.out.size)⟩
          case measure => simp [intOf]; omega
        · have HK : Hid (k = l.length) := hide (by omega)
          go_wp2_with fail
          go_ret
          exact ⟨ret_str (by rw [HRES.out, HK.out]; rfl), HBEL.out⟩
end Go.Proofs.Ytpbaljoindljnaa
