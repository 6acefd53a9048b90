/- NetRight of the program. -/
import Derived.Test.YtonafcifolddjaaDoorCntB
import Derived.Deep.RegionWith
namespace Go.Proofs.YtonafcifolddjaaDoor
open Go.RowKit Go.Maps
attribute [local go_sem ↓] Go.wp_at_zero Go.wp_at_succ

set_option maxRecDepth 100000 in
set_option maxHeartbeats 1000000 in
theorem i_net {q : Bool} {l : List RMsg} (hq : netB l = q) (v : Value) (w : World) (hok : ∀ m ∈ l, m.ok) (hv : RMsgSl w w.heap.size v l) :
    Calls Tryd.prog 50 #[v] w fun e w' => e = .returned (.bool q) ∧ Below w.heap.size w w' := by
  have HQ := hide hq
  have HOK := hide hok
  have hlm := hv.lenm
  obtain ⟨ao, cap, rfl, hc, hm, hr⟩ := hv
  have HR := hide hr
  clear hr hq hok
  by_cases h36 : 36 < l.length
  · go_enter Tryd.func50, Tryd.ntmps50
    go_wp2_with fail
    go_ret
    exact ⟨ret_bool (by rw [← HQ.out]; exact net_long h36), Below.refl _ _⟩
  · have hmk : ∀ W : World, (Instr.makeMap 72 none).run Tryd.prog W = .ok (.map (some W.heap.size)) (W.alloc (.map #[] 0)) := fun W => rfl
    go_enter Tryd.func50, Tryd.ntmps50
    go_wp2_with fail
    obtain ⟨W1, hW1⟩ : ∃ W1, W1 = w.alloc (.map #[] 0) := ⟨_, rfl⟩
    have hsz1 : W1.heap.size = w.heap.size + 1 := by rw [hW1]; simp
    have HC0 : Hid (CntAt W1 [] w.heap.size 0) := hide (by rw [hW1]; exact cnt_new w)
    have HB1 : Hid (Below w.heap.size w W1) := hide (by rw [hW1]; exact malloc1 _ _)
    rw [← hW1]
    clear hW1 hmk
    go_loopw [12] (fun i wr => ∃ k : Nat, k ≤ l.length ∧ i = .int .i64 k ∧ CntAt wr (l.take k) w.heap.size k ∧ (∀ j (h : j < l.length), j < k → msgB l[j] = true) ∧ (∀ f t, cntM f t (l.take k) ≤ 3) ∧ Apart W1 wr [w.heap.size]) (fun i _ => l.length - (intOf i).toNat)
    case atStart => exact ⟨0, Nat.zero_le _, rfl, HC0.out, fun j _ h => absurd h (by omega), fun f t => by simp [cntM], (Apart.refl W1).weakN⟩
    case round =>
      obtain ⟨k, hk, rfl, hcnt, hall, hthree, hap⟩ := hrel
      have HCNT := hide hcnt
      have HALL := hide hall
      have H3 := hide hthree
      have HAP := hide hap
      have hsr : w.heap.size + 1 ≤ wr.heap.size := by have := hap.size; omega
      have HW : Hid (Below w.heap.size w wr) := hide (HB1.out.trans (hap.below (by omega) (by simp)))
      clear hcnt hall hthree hap
      by_cases hlt : k < l.length
      · obtain ⟨b, o, rfl, hbB, hrow⟩ := HR.out (by intro h; simp [h] at hlt)
        have hnode := (hrow.get k hlt).carry hbB HW.out
        have hmem : l[k] ∈ l := List.getElem_mem hlt
        have HSU : Hid (∀ f t, cntM f t (l.take (k + 1)) = cntM f t (l.take k) + if isMsg f t l[k] then 1 else 0) := hide (fun f t => cntM_succ f t hlt)
        have HTK : Hid (l.take (k + 1) = l.take k ++ [l[k]]) := hide (List.take_succ_eq_append_getElem hlt)
        obtain ⟨x1, hx1⟩ : ∃ x1, x1 = l[k] := ⟨_, rfl⟩
        have HX1 := hide hx1
        rw [← hx1] at hnode hmem HSU HTK
        have HMEM := hide hmem
        have HOK1 := hide (HOK.out x1 hmem)
        obtain ⟨c0, c1, c2, c3⟩ := hnode
        obtain ⟨p, hp⟩ : ∃ p, msgB x1 = p := ⟨_, rfl⟩
        have HP := hide hp
        obtain ⟨c, hcc⟩ : ∃ c, cntM x1.frm x1.to (l.take k) = c := ⟨_, rfl⟩
        have HCC := hide hcc
        have hcl : c ≤ 3 := by rw [← hcc]; exact H3.out _ _
        clear hx1 hrow hcc hp hmem
        cases p
        · go_wp2_with (go_at_call 29; refine (i_msg (m := x1) HP.out HOK1.out _).mono ?_; rintro e w1 ⟨rfl, hb1⟩; have HB2 : Hid (Below wr.heap.size wr w1) := hide ((malloc1 _ _).trans (hb1.mono (by simp))); clear hb1)
          go_ret
          exact ⟨ret_bool (by rw [← HQ.out]; exact net_msg HMEM.out HP.out), HW.out.trans (HB2.out.mono (by omega))⟩
        · by_cases h3 : c = 3
          all_goals
            go_wp2_with (first
              | (go_at_call 29; refine (i_msg (m := x1) HP.out HOK1.out _).mono ?_; rintro e w1 ⟨rfl, hb1⟩; have HB1' : Hid (Below wr.heap.size wr w1) := hide ((malloc1 _ _).trans (hb1.mono (by simp))); have d0 := (hb1.cell (p := ⟨wr.heap.size, 0, none⟩) (by simp)); have d1 := (hb1.cell (p := ⟨wr.heap.size, 1, none⟩) (by simp)); have d2 := (hb1.cell (p := ⟨wr.heap.size, 2, none⟩) (by simp)); have d3 := (hb1.cell (p := ⟨wr.heap.size, 3, none⟩) (by simp)); simp at d0 d1 d2 d3; have hl1 : wr.heap.size < w1.heap.size := (by have := hb1.size; simp at this; omega); clear hb1)
              | (go_at_call 55; refine (ends_of x1 w1).mono ?_; rintro e w2 ⟨rfl, hb2⟩; have HB2 : Hid (Below wr.heap.size wr w2) := hide (HB1'.out.trans (hb2.mono HB1'.out.size)); have e0 := (hb2.cell (p := ⟨wr.heap.size, 0, none⟩) hl1).trans d0; have e1 := (hb2.cell (p := ⟨wr.heap.size, 1, none⟩) hl1).trans d1; have e2 := (hb2.cell (p := ⟨wr.heap.size, 2, none⟩) hl1).trans d2; have e3 := (hb2.cell (p := ⟨wr.heap.size, 3, none⟩) hl1).trans d3; have hlk := cnt_look (HCNT.out.keep (below_apart HB2.out) (by simp)) HOK1.out.1 HOK1.out.2.1 HCC.out; have hl2 : wr.heap.size < w2.heap.size := Nat.lt_of_lt_of_le hl1 hb2.size; clear hb2)
              | (go_at_call 55; refine (ends_of x1 w2).mono ?_; rintro e w3 ⟨rfl, hb3⟩; have HB3 : Hid (Below wr.heap.size wr w3) := hide (HB2.out.trans (hb3.mono HB2.out.size)); have hlk3 := cnt_look (HCNT.out.keep (below_apart HB3.out) (by simp)) HOK1.out.1 HOK1.out.2.1 HCC.out; clear hb3))
          · go_ret
            exact ⟨ret_bool (by rw [← HQ.out]; exact net_full HMEM.out (by have h1 := HSU.out x1.frm x1.to; have h2 := cntM_take x1.frm x1.to l (k + 1); rw [isMsg_self, HCC.out] at h1; simp at h1; omega)), HW.out.trans (HB2.out.mono (by omega))⟩
          · clear d0 d1 d2 d3 hlk
            go_region_with (go_at_call 55; refine (ends_of x1 _).mono ?_; rintro e w3 ⟨rfl, hb3⟩; have HB3 : Hid (Below wr.heap.size wr w3) := hide (HB2.out.drew.trans (hb3.mono HB2.out.size)); have hlk3 := cnt_look (HCNT.out.keep (below_apart HB3.out) (by simp)) HOK1.out.1 HOK1.out.2.1 HCC.out; obtain ⟨v0, st, W4, W5, hme, hl4, hst, hcn, hap⟩ := cnt_bump (HCNT.out.keep (below_apart HB3.out) (by simp)) HOK1.out (by omega) HCC.out hcl; have HCN := hide hcn; have HAPN := hide hap; clear hb3 hcn hap)
            all_goals
              go_wp2_with fail
              go_roundw
              case rel =>
                refine ⟨k + 1, by omega, by go_num, by rw [HTK.out]; exact HCN.out, fun j hj hjk => ?_, fun f t => ?_, ?_⟩
                · by_cases e : j = k
                  · subst e; rw [← HX1.out]; exact HP.out
                  · exact HALL.out j hj (by omega)
                · have h1 := HSU.out f t
                  have h2 := H3.out f t
                  by_cases e : isMsg f t x1 = true
                  · obtain ⟨rfl, rfl⟩ := isMsg_iff.1 e
                    rw [isMsg_self, HCC.out] at h1
                    simp at h1
                    omega
                  · rw [if_neg e] at h1
                    omega
                · exact ((HAP.out.then HB3.out).trans HAPN.out).sameN
              case measure => simp [intOf]; omega
      · have hkl : k = l.length := by omega
        subst hkl
        go_wp2_with fail
        go_ret
        refine ⟨ret_bool ?_, HW.out⟩
        rw [← HQ.out]
        have h3 := H3.out
        rw [List.take_length] at h3
        refine net_yes (by omega) (fun m hm => ?_) (fun m _ => h3 _ _)
        obtain ⟨j, hj, rfl⟩ := List.getElem_of_mem hm
        exact HALL.out j hj hj
end Go.Proofs.YtonafcifolddjaaDoor
