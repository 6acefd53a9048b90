/- refuse, whyCode, and messages made anew. -/
import Derived.Test.YtonafcifolddjaaGreatDoorQB07
import Derived.Test.YtonafcifolddjaaGreatDoorQB18
import Derived.Test.YtonafcifolddjaaGreatDoorQB00
import Derived.Test.YtonafcifolddjaaGreatDoorQB17
import Derived.Test.YtonafcifolddjaaGreatDoorQB19
namespace Go.Proofs.YtonafcifolddjaaGreatDoor
open Go.RowKit
attribute [local go_sem ↓] Go.wp_at_zero Go.wp_at_succ

def refuseW (l : List RMsg) (o : Bool) : Why := if 400 < l.length then .wrapped else if o && netB l then .normal else .report
set_option maxHeartbeats 400000 in
theorem i_refuse {E : Errs} {y : Why} {l : List RMsg} {o : Bool} (hy : refuseW l o = y) (v : Value) (w : World) (hok : ∀ m ∈ l, m.ok) (hv : RMsgSl w w.heap.size v l) (hs : SentAt w E) :
    Calls Tryz.prog 30 #[v, .bool o] w fun e w' => e = .returned (whyV E y) ∧ Below w.heap.size w w' := by
  have HOK := hide hok
  have HV := hide hv
  have HS := hide hs
  have hlm := hv.lenm
  obtain ⟨ao, cap, rfl, hc, hm, hr⟩ := hv
  obtain ⟨q, hq⟩ : ∃ q, netB l = q := ⟨_, rfl⟩
  have HQ := hide hq
  have hgL := hs.gL
  have hgR := hs.gR
  clear hr hok hs
  by_cases h4 : 400 < l.length
  · obtain rfl : y = .wrapped := by rw [← hy, refuseW, if_pos h4]
    go_enter Tryz.func30, Tryz.ntmps30
    go_wp2_with fail
    go_ret
    exact ⟨rfl, Below.refl _ _⟩
  · have HY : Hid (y = if o && q then .normal else .report) := hide (by rw [← hy, refuseW, if_neg h4, hq])
    clear hy hq
    cases o
    · go_enter Tryz.func30, Tryz.ntmps30
      go_wp2_with fail
      go_ret
      exact ⟨by rw [HY.out]; rfl, Below.refl _ _⟩
    · cases q
      all_goals
        go_enter Tryz.func30, Tryz.ntmps30
        go_wp2_with (go_at_call 22; refine (i_net HQ.out _ _ HOK.out HV.out).mono ?_; rintro e w1 ⟨rfl, hb1⟩; have HB1 := hide hb1; have kR := (HS.out.carry hb1).gR; clear hb1)
        go_ret
        exact ⟨by rw [HY.out]; rfl, HB1.out⟩
set_option maxHeartbeats 400000 in
theorem why_code {E : Errs} (y : Why) (hy : y ≠ .normal) (w : World) (hs : SentAt w E) :
    Calls Tryz.prog 73 #[whyV E y] w fun e w' => e = .returned (.int .i64 y.code) ∧ w' = w := by
  have HS := hide hs
  have hgL := hs.gL
  have hgN := hs.gN
  have hgM := hs.gM
  obtain ⟨cN, tN, bN⟩ := hs.bN
  obtain ⟨cL, tL, bL⟩ := hs.bL
  obtain ⟨cR, tR, bR⟩ := hs.bR
  obtain ⟨cM, tM, bM⟩ := hs.bM
  have HNL := hide (is_other E.aN E.aL _ _ _ _ w hs.nL bN bL)
  have HRL := hide (is_other E.aR E.aL _ _ _ _ w (Ne.symm hs.lR) bR bL)
  have HRN := hide (is_other E.aR E.aN _ _ _ _ w (Ne.symm hs.nR) bR bN)
  have HRM := hide (is_other E.aR E.aM _ _ _ _ w hs.rM bR bM)
  have HML := hide (is_other E.aM E.aL _ _ _ _ w (Ne.symm hs.lM) bM bL)
  have HMN := hide (is_other E.aM E.aN _ _ _ _ w (Ne.symm hs.nM) bM bN)
  clear bN bL bR bM hs HS
  obtain ⟨aN, aL, aR, aM⟩ := E
  simp only [] at *
  cases y
  · exact absurd rfl hy
  · unfold whyV
    go_enter Tryz.func73, Tryz.ntmps73
    go_wp2_with (first | (go_at_call_of 89 aL; refine HNL.out.mono ?_; rintro e w' ⟨rfl, rfl⟩) | (go_at_call 89; refine (is_same aN _).mono ?_; rintro e w' ⟨rfl, rfl⟩))
    go_ret
    exact ⟨rfl, rfl⟩
  · unfold whyV
    go_enter Tryz.func73, Tryz.ntmps73
    go_wp2_with (go_at_call 89; refine (is_same aL _).mono ?_; rintro e w' ⟨rfl, rfl⟩)
    go_ret
    exact ⟨rfl, rfl⟩
  · unfold whyV
    go_enter Tryz.func73, Tryz.ntmps73
    go_wp2_with (first | (go_at_call_of 89 aL; refine HRL.out.mono ?_; rintro e w' ⟨rfl, rfl⟩) | (go_at_call_of 89 aN; refine HRN.out.mono ?_; rintro e w' ⟨rfl, rfl⟩) | (go_at_call_of 89 aM; refine HRM.out.mono ?_; rintro e w' ⟨rfl, rfl⟩))
    go_ret
    exact ⟨rfl, rfl⟩
  · unfold whyV
    go_enter Tryz.func73, Tryz.ntmps73
    go_wp2_with (first | (go_at_call_of 89 aL; refine HML.out.mono ?_; rintro e w' ⟨rfl, rfl⟩) | (go_at_call_of 89 aN; refine HMN.out.mono ?_; rintro e w' ⟨rfl, rfl⟩) | (go_at_call 89; refine (is_same aM _).mono ?_; rintro e w' ⟨rfl, rfl⟩))
    go_ret
    exact ⟨rfl, rfl⟩
theorem nclone (s : ByteArray) (w : World) (hs : s.size ≤ 1048576) : Calls Tryz.prog 75 #[.string s] w fun e w' => e = .returned (.string s) ∧ Below w.heap.size w w' := by
  have HS := hide hs
  clear hs
  go_enter Tryz.func75, Tryz.ntmps75
  go_wp2_with (go_at_call 90; refine (Tryz.stringslite_Clone s _ (Nat.le_trans HS.out (by omega))).mono ?_; rintro e w1 ⟨rfl, hb1⟩; have HB1 := hide hb1; clear hb1)
  go_ret
  exact ⟨rfl, HB1.out⟩
set_option maxRecDepth 100000 in
set_option maxHeartbeats 400000 in
theorem own_msg (m : RMsg) (w : World) (hf : m.fit) :
    Calls Tryz.prog 38 #[m.val] w fun e w' => e = .returned m.val ∧ Below w.heap.size w w' := by
  have HF := hide hf
  unfold RMsg.val
  have hi : (Tryz.prog.info? 25).map (·.size) = some 4 := by
    obtain ⟨i0, hi, _, hz1, _⟩ := info_parts Tryz.infoRMsg
    rw [hi]; simp [hz1]
  have HI := hide hi
  clear hi hf
  go_enter Tryz.func38, Tryz.ntmps38
  go_wp2_with fail
  refine wp_region_tail 12 (by kernel_rfl) (by kernel_rfl) (fun W hW => ?_)
  simp only [List.take_succ_cons, List.take_zero, List.drop_succ_cons, List.drop_zero]
  have hne := grown_some W
  have HBW : Hid (Below w.heap.size w W) := hide (by rw [hW]; exact (malloc1 _ _).trans ((malloc1 _ _).mono (by simp)))
  have f0 := grown_cell (w := W) (b := w.heap.size) (o := 0) (v := .string m.frm) (by rw [hW]; simp)
  have f1 := grown_cell (w := W) (b := w.heap.size) (o := 1) (v := .string m.to) (by rw [hW]; simp)
  have f2 := grown_cell (w := W) (b := w.heap.size) (o := 2) (v := .string m.label) (by rw [hW]; simp)
  have f3 := grown_cell (w := W) (b := w.heap.size) (o := 3) (v := .int .i64 m.sort) (by rw [hW]; simp)
  have hlW : w.heap.size + 1 < W.heap.size := by rw [hW]; simp
  have HG : Hid (∀ o, o < 4 → (∃ y, W.cell? ⟨w.heap.size + 1, o, none⟩ = some y) ∧ W.frozen? ⟨w.heap.size + 1, o, none⟩ = false) := hide (fun o ho => by
    rw [hW]
    rcases o with _ | _ | _ | _ | o
    all_goals first | (exfalso; omega) | (constructor; exact ⟨_, by simp; rfl⟩; simp))
  clear hW
  repeat (go_big_quiet_step (first
    | (go_at_call_of 75 m.frm; exact grown_more (nclone _ _ HF.out.1))
    | (go_at_call_of 75 m.to; exact grown_more (nclone _ _ HF.out.2.1))
    | (go_at_call_of 75 m.label; exact grown_more (nclone _ _ HF.out.2.2))))
  refine wpQuiet_nil ?_
  intro w2 hw2
  have HB2 : Hid (Below w.heap.size w w2) := hide (HBW.out.trans (hw2.mono HBW.out.size))
  obtain ⟨⟨y0, c0⟩, z0⟩ := HG.out 0 (by omega)
  obtain ⟨⟨y1, c1⟩, z1⟩ := HG.out 1 (by omega)
  obtain ⟨⟨y2, c2⟩, z2⟩ := HG.out 2 (by omega)
  obtain ⟨⟨y3, c3⟩, z3⟩ := HG.out 3 (by omega)
  replace c0 := (hw2.cell (p := ⟨w.heap.size + 1, 0, none⟩) hlW).trans c0
  replace c1 := (hw2.cell (p := ⟨w.heap.size + 1, 1, none⟩) hlW).trans c1
  replace c2 := (hw2.cell (p := ⟨w.heap.size + 1, 2, none⟩) hlW).trans c2
  replace c3 := (hw2.cell (p := ⟨w.heap.size + 1, 3, none⟩) hlW).trans c3
  replace z0 := (hw2.frozen (p := ⟨w.heap.size + 1, 0, none⟩) hlW).trans z0
  replace z1 := (hw2.frozen (p := ⟨w.heap.size + 1, 1, none⟩) hlW).trans z1
  replace z2 := (hw2.frozen (p := ⟨w.heap.size + 1, 2, none⟩) hlW).trans z2
  replace z3 := (hw2.frozen (p := ⟨w.heap.size + 1, 3, none⟩) hlW).trans z3
  clear hw2 hne f0 f1 f2 f3 HG
  go_wp2_with fail
  obtain ⟨W3, hW3⟩ : ∃ W3, W3 = putMsg w2 (w.heap.size + 1) 0 m := ⟨_, rfl⟩
  have hAt : RMsgAt W3 (w.heap.size + 1) 0 m := by
    rw [hW3]
    refine putMsg_at _ _ _ _ (fun i hi => ?_)
    rcases i with _ | _ | _ | _ | i
    · exact ⟨_, c0⟩
    · exact ⟨_, c1⟩
    · exact ⟨_, c2⟩
    · exact ⟨_, c3⟩
    · omega
  have hB3 : Below w.heap.size w W3 := by
    rw [hW3]
    exact putMsg_below HB2.out (by omega) _ _
  have hgo : W3 = ((((w2.setCell ⟨w.heap.size + 1, 0, none⟩ (.string m.frm)).setCell ⟨w.heap.size + 1, 1, none⟩ (.string m.to)).setCell ⟨w.heap.size + 1, 2, none⟩ (.string m.label)).setCell ⟨w.heap.size + 1, 3, none⟩ (.int .i64 m.sort)) := hW3
  rw [← hgo]
  obtain ⟨r0, r1, r2, r3⟩ := hAt
  clear hW3 hgo c0 c1 c2 c3 z0 z1 z2 z3
  refine bodyPost_ret_by (v := .agg #[.string m.frm, .string m.to, .string m.label, .int .i64 m.sort]) ?_ rfl ⟨rfl, hB3⟩
  unfold results
  go_simp
end Go.Proofs.YtonafcifolddjaaGreatDoor
/- The bytes of what is on its way: the mathematics, and the specification's NetBytes. -/
namespace Go.Proofs.YtonafcifolddjaaGreatDoor
open Go.RowKit

def msgP (m : RMsg) : ByteArray := joinS [textS m.frm, textS m.to, textS m.label, putS m.sort]
def msgW (m : RMsg) : ByteArray := textS (sealS (msgP m))
def partsN (l : List RMsg) (k : Nat) : List ByteArray := putS (l.length : Int) :: (l.take k).map msgW
def bytesN (l : List RMsg) : ByteArray := joinS (partsN l l.length)
def netS (l : List RMsg) : ByteArray := if netB l then bytesN l else ByteArray.empty
theorem join_four (a b c d : ByteArray) : joinS [a, b, c, d] = a ++ b ++ c ++ d := by
  rw [joinS_cons, joinS_cons, joinS_cons, joinS_one, ByteArray.append_assoc, ByteArray.append_assoc]
theorem partsN_succ {l : List RMsg} {k : Nat} (h : k < l.length) : partsN l (k + 1) = partsN l k ++ [msgW l[k]] := by
  rw [partsN, partsN, List.take_succ_eq_append_getElem h, List.map_append, List.cons_append]
  rfl
theorem partsN_len (l : List RMsg) (k : Nat) (h : k ≤ l.length) : (partsN l k).length = 1 + k := by
  rw [partsN, List.length_cons, List.length_map, List.length_take]
  omega
theorem msgP_size {m : RMsg} (h : msgB m = true) : (msgP m).size ≤ 100 := by
  obtain ⟨h1, h2, h3, -⟩ := msg_name h
  rw [msgP, joinS_size]
  have a := textS_size _ (name_short h1)
  have b := textS_size _ (name_short h2)
  have c := textS_size _ (name_short h3)
  have d := putS_size m.sort
  simp
  omega
theorem seal_size {s : ByteArray} (h : s.size ≤ 7996) : (sealS s).size = s.size + 4 := by
  rw [sealS_yes h, ByteArray.size_append, fourS_size]
theorem textS_more {s : ByteArray} (h : s.size ≤ 8000) : (textS s).size ≤ s.size + 10 := by
  rw [textS_yes h, join_two, ByteArray.size_append]
  have := putS_size (s.size : Int)
  omega
theorem msgW_size {m : RMsg} (h : msgB m = true) : (msgW m).size ≤ 120 := by
  have h1 := msgP_size h
  have h2 := seal_size (s := msgP m) (by omega)
  have h3 := textS_more (s := sealS (msgP m)) (by omega)
  rw [msgW]
  omega
theorem partsN_small {l : List RMsg} (h : netB l = true) (k : Nat) : ∀ x ∈ partsN l k, x.size ≤ 120 := by
  intro x hx
  simp only [partsN, List.mem_cons, List.mem_map] at hx
  rcases hx with rfl | ⟨m, hm, rfl⟩
  · exact Nat.le_trans (putS_size _) (by omega)
  · exact msgW_size (net_right h m (List.mem_of_mem_take hm)).1
theorem partsN_tot {l : List RMsg} (h : netB l = true) {k : Nat} (hk : k ≤ l.length) : ((partsN l k).map ByteArray.size).sum ≤ 4440 := by
  have h1 := sum_le_mul (partsN_small h k)
  rw [partsN_len l k hk] at h1
  have := net_len h
  omega
theorem sp_put {s : ByteArray} {n : Int} (hs : putS n = s) (w : World) (h : -9223372036854775808 ≤ n ∧ n ≤ 9223372036854775807) :
    Calls Tryz.prog 60 #[.int .i64 n] w fun e w' => e = .returned (.string s) ∧ Below w.heap.size w w' := by subst hs; exact spec_put n w h.1 h.2
theorem sp_text {s t : ByteArray} (hs : textS t = s) (w : World) (h : t.size ≤ maxLen) :
    Calls Tryz.prog 61 #[.string t] w fun e w' => e = .returned (.string s) ∧ Below w.heap.size w w' := by subst hs; exact spec_text t w h
theorem sp_seal {s t : ByteArray} (hs : sealS t = s) (w : World) (h : t.size ≤ maxLen) :
    Calls Tryz.prog 62 #[.string t] w fun e w' => e = .returned (.string s) ∧ Below w.heap.size w w' := by subst hs; exact spec_seal t w h
theorem ip_put {s : ByteArray} {n : Int} (hs : putS n = s) (w : World) (h : -9223372036854775808 ≤ n ∧ n ≤ 9223372036854775807) :
    Calls Tryz.prog 43 #[.int .i64 n] w fun e w' => e = .returned (.string s) ∧ Below w.heap.size w w' := by subst hs; exact impl_put n w h.1 h.2
theorem ip_text {s t : ByteArray} (hs : textS t = s) (w : World) (h : t.size ≤ maxLen) :
    Calls Tryz.prog 44 #[.string t] w fun e w' => e = .returned (.string s) ∧ Below w.heap.size w w' := by subst hs; exact impl_text t w h
theorem ip_seal {s t : ByteArray} (hs : sealS t = s) (w : World) (h : t.size ≤ maxLen) :
    Calls Tryz.prog 78 #[.string t] w fun e w' => e = .returned (.string s) ∧ Below w.heap.size w w' := by subst hs; exact impl_seal t w h
end Go.Proofs.YtonafcifolddjaaGreatDoor
