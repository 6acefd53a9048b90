/- The program's NetRead. -/
import Derived.Test.YtonafcifolddjaaGreatDoorQB36
import Derived.Test.YtonafcifolddjaaGreatDoorQB19
import Derived.Test.YtonafcifolddjaaGreatDoorQB13
import Derived.Test.YtonafcifolddjaaGreatDoorQB18
namespace Go.Proofs.YtonafcifolddjaaGreatDoor
open Go.RowKit
attribute [local go_sem ↓] Go.wp_at_zero Go.wp_at_succ

structure NoB (w : World) (b : Nat) : Prop where
  m0 : w.cell? ⟨b, 0, none⟩ = some (.slice none 0 0)
  m1 : w.cell? ⟨b, 1, none⟩ = some (.string ⟨#[]⟩)
  m2 : w.cell? ⟨b, 2, none⟩ = some (.string ⟨#[]⟩)
  m3 : w.cell? ⟨b, 3, none⟩ = some (.string ⟨#[]⟩)
  m4 : w.cell? ⟨b, 4, none⟩ = some (.int .i64 0)
  m5 : w.cell? ⟨b, 5, none⟩ = some (.int .i64 0)
  fz : ∀ o, w.frozen? ⟨b, o, none⟩ = false
theorem NoB.keep {w w' : World} {b : Nat} {l : List Nat} (h : NoB w b) (ha : Apart w w' l) (h1 : b ∉ l) : NoB w' b :=
  have hb : b < w.heap.size := World.block_lt_of_cell? w _ h.m0
  ⟨ha.cell' h.m0 h1, ha.cell' h.m1 h1, ha.cell' h.m2 h1, ha.cell' h.m3 h1, ha.cell' h.m4 h1, ha.cell' h.m5 h1, fun o => ha.frozen' hb (h.fz o) h1⟩
def nrW (w : World) (t : ByteArray) : World := (w.alloc (.cells #[.slice none 0 0, .string ⟨#[]⟩, .string ⟨#[]⟩, .string ⟨#[]⟩, .int .i64 0, .int .i64 0] 29)).alloc (.cells #[.string t, .int .i64 0, .nilIface] 74)
theorem nr_start (w : World) (t : ByteArray) : NoB (nrW w t) w.heap.size ∧ RdAt (nrW w t) (w.heap.size + 1) t 0 0 ∧ Below w.heap.size w (nrW w t) := by
  refine ⟨⟨?_, ?_, ?_, ?_, ?_, ?_, ?_⟩, ⟨?_, ?_, ?_, ?_, ?_⟩, ((Below.refl _ _).alloc (Nat.le_refl _) _).alloc (by simp) _⟩
  · simp [nrW]
  · simp [nrW]
  · simp [nrW]
  · simp [nrW]
  · simp [nrW]
  · simp [nrW]
  · intro o
    have hb : Below (w.heap.size + 1) (w.alloc (.cells #[.slice none 0 0, .string ⟨#[]⟩, .string ⟨#[]⟩, .string ⟨#[]⟩, .int .i64 0, .int .i64 0] 29)) (nrW w t) := (Below.refl _ _).alloc (by simp) _
    exact (hb.frozen (p := ⟨w.heap.size, o, none⟩) (by simp)).trans (by simp [World.frozen?_alloc_at])
  · simp [nrW]
  · simp [nrW]
  · simp [nrW]; rfl
  · simp [nrW, World.frozen?_alloc_at]
  · simp [nrW, World.frozen?_alloc_at]
theorem wordI_size (t : ByteArray) (a c : Int) (hs : t.size ≤ 8000) : (wordI t a c).1.size ≤ 8000 := by
  unfold wordI
  split
  · unfold getT
    split
    · exact Nat.zero_le _
    · split
      · exact Nat.zero_le _
      · split
        · exact Nat.zero_le _
        · simp only [ByteArray.size_extract]; omega
  · exact Nat.zero_le _
theorem cntR_rng (t : ByteArray) : 0 ≤ (cntR t).1 ∧ (cntR t).1 ≤ 36 ∧ 0 ≤ (cntR t).2.1 ∧ (cntR t).2.1 ≤ 8000 := by
  have h : 0 ≤ (numI t 0 0).2.1 ∧ (numI t 0 0).2.1 ≤ 8000 := by
    have := getN_at t 0
    unfold numI; rw [if_pos rfl]; omega
  unfold cntR cntI
  split
  · simp only; omega
  · omega
theorem rdW_at {t : ByteArray} {a c : Int} (h0 : 0 ≤ a) (h1 : a ≤ 8000) (hs : t.size ≤ 8000) : ∀ k, 0 ≤ (rdW t a c k).2.1 ∧ (rdW t a c k).2.1 ≤ 8000
  | 0 => ⟨h0, h1⟩
  | k + 1 => by
    have ih := rdW_at (c := c) h0 h1 hs k
    rw [rdW]
    exact wordI_at ih.1 ih.2 hs
def rdK (t : ByteArray) (k : Nat) : List ByteArray × Int × Int := rdW t (cntR t).2.1 (cntR t).2.2 k
theorem rdK_at (t : ByteArray) (hs : t.size ≤ 8000) (k : Nat) : 0 ≤ (rdK t k).2.1 ∧ (rdK t k).2.1 ≤ 8000 := by
  have := cntR_rng t
  exact rdW_at (by omega) (by omega) hs k
theorem rdK_len (t : ByteArray) (k : Nat) : (rdK t k).1.length = k := rdW_len _ _ _ _
def okB (t : ByteArray) : Bool := (decide ((wsR t).2.2 = 0) && decide ((wsR t).2.1 = (t.size : Int))) && netB ((wsR t).1.map unMsg)
theorem okB_iff (t : ByteArray) : okB t = true ↔ okI t := by
  unfold okB okI; simp [and_assoc]
def netL (t : ByteArray) : List RMsg := if 8000 < t.size then [] else if okB t then (wsR t).1.map unMsg else []
def netC (t : ByteArray) : Int := if 8000 < t.size then 2 else if okB t then 0 else 3
theorem unMsg_ok (s : ByteArray) : (unMsg s).ok := by
  have hz := unT_size s
  unfold unMsg
  split
  · have h1 := wordI_size (unT s)
    unfold rd4 RMsg.ok maxLen
    refine ⟨Nat.le_trans (h1 _ _ hz) (by omega), Nat.le_trans (h1 _ _ hz) (by omega), Nat.le_trans (h1 _ _ hz) (by omega)⟩
  · exact ⟨Nat.zero_le _, Nat.zero_le _, Nat.zero_le _⟩
set_option maxRecDepth 100000 in
set_option maxHeartbeats 2000000 in
theorem i_netRead (t : ByteArray) (w : World) (hs : t.size ≤ 8000) :
    Calls Tryz.prog 14 #[.string t] w fun e w' => ∃ v, e = .returned (netV v noRMsg (netC t)) ∧ RMsgOwn w' w.heap.size v (netL t) ∧ Below w.heap.size w w' := by
  have HT := hide hs
  have HC : Hid (∀ rb w, RdAt w rb t 0 0 → Calls Tryz.prog 48 #[.pointer (some ⟨rb, 0, none⟩), .int .i64 36] w fun e w' => e = .returned (.int .i64 (cntR t).1) ∧ RdAt w' rb t (cntR t).2.1 (cntR t).2.2 ∧ Apart w w' [rb]) := hide (fun rb w h => rd_count t 0 0 36 rb w hs (by omega) h)
  have HW : Hid (∀ k rb w, RdAt w rb t (rdK t k).2.1 (rdK t k).2.2 → Calls Tryz.prog 50 #[.pointer (some ⟨rb, 0, none⟩)] w fun e w' => e = .returned (.string (wordI t (rdK t k).2.1 (rdK t k).2.2).1) ∧ RdAt w' rb t (rdK t (k + 1)).2.1 (rdK t (k + 1)).2.2 ∧ Apart w w' [rb]) := hide (fun k rb w h => rd_word t _ _ rb w hs (rdK_at t hs k).2 h)
  have HX : Hid (∀ k w, Calls Tryz.prog 49 #[.string (wordI t (rdK t k).2.1 (rdK t k).2.2).1] w fun e w' => e = .returned (unMsg (wordI t (rdK t k).2.1 (rdK t k).2.2).1).val ∧ Below w.heap.size w w') := hide (fun k w => i_unMsg _ w (wordI_size t _ _ hs))
  have HK1 : Hid (∀ k, (rdK t (k + 1)).1 = (rdK t k).1 ++ [(wordI t (rdK t k).2.1 (rdK t k).2.2).1]) := hide (fun k => rfl)
  have HR0 : Hid (∀ w rb, RdAt w rb t (cntR t).2.1 (cntR t).2.2 → RdAt w rb t (rdK t 0).2.1 (rdK t 0).2.2) := hide (fun _ _ h => h)
  have HLN : Hid (∀ k, (rdK t k).1.length = k) := hide (rdK_len t)
  have hg := cntR_rng t
  obtain ⟨N, hN⟩ : ∃ N : Nat, (cntR t).1 = (N : Int) := ⟨(cntR t).1.toNat, by omega⟩
  have hN36 : N ≤ 36 := by omega
  obtain ⟨i0, hi, hz0, hz1, hz2⟩ := info_parts Tryz.infoRMsg
  have HI := hide (And.intro hi (And.intro hz0 (And.intro hz1 hz2)))
  rw [hN] at HC
  have HWS : Hid (wsR t = rdK t N) := hide (by unfold wsR rdK; rw [hN, Int.toNat_natCast])
  have HOB : Hid (okB t = ((decide ((rdK t N).2.2 = 0) && decide ((rdK t N).2.1 = (t.size : Int))) && netB ((rdK t N).1.map unMsg))) := hide (by rw [okB, HWS.out])
  have HNL : Hid (netL t = if okB t then (rdK t N).1.map unMsg else []) := hide (by rw [netL, if_neg (by omega), HWS.out])
  have HNC : Hid (netC t = if okB t then 0 else 3) := hide (by rw [netC, if_neg (by omega)])
  clear hi hz0 hz1 hz2 hg
  generalize rdK t = R at *
  go_enter Tryz.func14, Tryz.ntmps14
  go_wp2_with (first
    | (go_at_call 48; refine (HC.out _ (nrW w t) (nr_start w t).2.1).mono ?_; rintro e w1 ⟨rfl, hr1, ha1⟩; have HR1 := hide hr1; have HA1 := hide ha1; clear hr1 ha1))
  go_loopw [4, 14] (fun all i wr => ∃ k : Nat, k ≤ N ∧ i = .int .i64 k ∧ wr.ownsRow (w.heap.size + 2) 25 4 all k (((R k).1.map unMsg).flatMap RMsg.cells) ∧ RdAt wr (w.heap.size + 1) t (R k).2.1 (R k).2.2 ∧ NoB wr w.heap.size ∧ w.heap.size + 2 ≤ wr.heap.size ∧ Below w.heap.size w wr) (fun _ i _ => N - (intOf i).toNat)
  case atStart =>
    obtain ⟨s1, -, s3⟩ := nr_start w t
    have hz : w.heap.size + 2 ≤ w1.heap.size := by have := HA1.out.size; simp [nrW] at this; omega
    refine ⟨0, Nat.zero_le _, rfl, ?_, HR0.out _ _ HR1.out, s1.keep HA1.out (by simp), hz, s3.trans (apart_below HA1.out (by omega) s3.size)⟩
    have := HLN.out 0
    rw [List.length_eq_zero_iff] at this
    rw [this]
    exact RMsgOwn.nil _ _
  case round =>
    obtain ⟨k, hk, rfl, hown, hrd, hno, hsz, hbel⟩ := hrel
    have HOWN := hide hown
    have HRD := hide hrd
    have HNO := hide hno
    have HSZ := hide hsz
    have HBEL := hide hbel
    obtain ⟨p, cp, rfl⟩ := owns_shape hown
    clear hown hrd hno hsz hbel
    by_cases hlt : k < N
    · have hlt' : decide ((k : Int) < (N : Int)) = true := decide_eq_true (by omega)
      obtain ⟨x1, hx1⟩ : ∃ x1, unMsg (wordI t (R k).2.1 (R k).2.2).1 = x1 := ⟨_, rfl⟩
      have HX1 := hide (HX.out k)
      rw [hx1] at HX1
      have HKK : Hid ((R (k + 1)).1.map unMsg = (R k).1.map unMsg ++ [x1]) := hide (by rw [HK1.out k, List.map_append, ← hx1]; rfl)
      have HW1 := hide (HW.out k)
      generalize (wordI t (R k).2.1 (R k).2.2).1 = y1 at *
      clear hx1
      go_wp2_with (first
        | (go_at_call 50; refine (HW1.out _ _ HRD.out).mono ?_; rintro e w2 ⟨rfl, hr2, ha2⟩; have HR2 := hide hr2; have HA2 := hide ha2; clear hr2 ha2)
        | (go_at_call 49; refine (HX1.out w2).mono ?_; rintro e w3 ⟨rfl, hb3⟩; have HB3 := hide hb3; have HA3 : Hid (Apart wr w3 [w.heap.size + 1]) := hide (HA2.out.then hb3); clear hb3; unfold RMsg.val)
        | (at_builtin; refine wpList_append_own _ rfl (.tmp 16) (.tmp 20) 23 rfl (w.heap.size + 2) 25 i0 (.agg #[.string ByteArray.empty, .string ByteArray.empty, .string ByteArray.empty, .int .i64 0]) 4 56 Tryz.underlying23 HI.out.1 HI.out.2.1 HI.out.2.2.1 HI.out.2.2.2 rfl (by decide) (.slice p k cp) k (((R k).1.map unMsg).flatMap RMsg.cells) rfl (owns_keep HOWN.out (HA3.out.then (malloc1 _ _)) (fun b hb hn => by have := (owns_fresh HOWN.out).lo b hb; simp at hn; omega)) ⟨w3.heap.size, 0, none⟩ 1 1 x1.cells rfl rfl (fun j u hj => new_row1 _ _ _ j u hj) (RMsg.cells_one _) (by unfold maxLen; omega) (by omega) (by have := HA3.out.size; have := HSZ.out; simp; omega) ?_; intro v4 w4 hown4 hgr4 _; have HOWN4 := hide hown4; have HGR4 := hide hgr4; clear hown4 hgr4))
      go_roundw
      case rel =>
        have hA : Apart wr w4 ([w.heap.size + 1] ++ vblocks (.slice p k cp)) := (HA3.out.then (malloc1 w3 _)).trans (grownBy_apart HGR4.out)
        have hfr := (owns_fresh HOWN.out).lo
        have hA2 : Apart w2 w4 (vblocks (.slice p k cp)) := by
          have := (below_apart (HB3.out.trans ((malloc1 w3 _).mono HB3.out.size))).trans (grownBy_apart HGR4.out)
          rwa [List.nil_append] at this
        refine ⟨k + 1, hlt, by go_num, ?_, HR2.out.keep hA2 (fun h => by have := hfr _ h; omega), HNO.out.keep hA (fun h => by
          rw [List.mem_append] at h
          rcases h with h | h
          · simp at h
          · have := hfr _ h; omega), Nat.le_trans HSZ.out hA.size, HBEL.out.trans (hA.below HBEL.out.size (fun b hb => by
          rw [List.mem_append] at hb
          rcases hb with h | h
          · simp at h; omega
          · have := hfr _ h; omega))⟩
        rw [HKK.out, List.flatMap_append]
        simpa using HOWN4.out
      case measure => simp [intOf]; omega
    · obtain rfl : N = k := by omega
      have HOWN' : Hid (RMsgOwn wr (w.heap.size + 2) (.slice p N cp) ((R N).1.map unMsg)) := hide (by
        have := HOWN.out
        unfold RMsgOwn
        rwa [List.length_map, HLN.out N])
      have HMO : Hid (∀ m ∈ (R N).1.map unMsg, m.ok) := hide (fun m hm => by
        obtain ⟨x, _, rfl⟩ := List.mem_map.1 hm
        exact unMsg_ok x)
      obtain ⟨q1, hq1⟩ : ∃ q1, (decide ((R N).2.2 = 0) && decide ((R N).2.1 = (t.size : Int))) = q1 := ⟨_, rfl⟩
      obtain ⟨q2, hq2⟩ : ∃ q2, netB ((R N).1.map unMsg) = q2 := ⟨_, rfl⟩
      have HQ1 := hide hq1
      have HQ2 := hide hq2
      rw [hq1, hq2] at HOB
      have HML : Hid (((R N).1.map unMsg).length ≤ 4294967296) := hide (by rw [List.length_map, HLN.out N]; omega)
      generalize (R N).1.map unMsg = L at *
      clear hq1 hq2
      cases q1
      · go_wp2_with (go_at_call 51; refine (rd_whole (t := t) HQ1.out _ _ HRD.out).mono ?_; rintro e w6 ⟨rfl, hb6⟩; have HB6 := hide hb6; have HN6 := hide (HNO.out.keep (below_apart hb6) (by simp)); obtain ⟨m0, m1, m2, m3, m4, m5, fz⟩ := HN6.out; clear hb6)
        have hob : okB t = false := HOB.out
        refine bodyPost_ret (v := .agg #[.slice none 0 0, .string ⟨#[]⟩, .string ⟨#[]⟩, .string ⟨#[]⟩, .int .i64 0, .int .i64 3]) (by simp [results, Tryz.results14, go_sem, m0, m1, m2, m3, m4, m5]) rfl ⟨.slice none 0 0, ret_val ?_, ?_, (((((((HBEL.out.trans (HB6.out.mono HBEL.out.size)).setCell (Nat.le_refl _) _).setCell (Nat.le_refl _) _).setCell (Nat.le_refl _) _).setCell (Nat.le_refl _) _).setCell (Nat.le_refl _) _).setCell (Nat.le_refl _) _)⟩
        · rw [HNC.out, hob]; rfl
        · rw [HNL.out, hob]; exact RMsgOwn.nil _ _
      · cases q2
        · go_wp2_with (first | (go_at_call 51; refine (rd_whole (t := t) HQ1.out _ _ HRD.out).mono ?_; rintro e w6 ⟨rfl, hb6⟩; have HB6 := hide hb6; clear hb6) | (go_at_call 22; refine (i_net HQ2.out _ w6 HMO.out ((HOWN'.out.below HB6.out).sl HML.out)).mono ?_; rintro e w7 ⟨rfl, hb7⟩; have HB7 : Hid (Below wr.heap.size wr w7) := hide (HB6.out.trans (hb7.mono HB6.out.size)); have HN7 := hide (HNO.out.keep (below_apart HB7.out) (by simp)); obtain ⟨m0, m1, m2, m3, m4, m5, fz⟩ := HN7.out; clear hb7))
          have hob : okB t = false := HOB.out
          refine bodyPost_ret (v := .agg #[.slice none 0 0, .string ⟨#[]⟩, .string ⟨#[]⟩, .string ⟨#[]⟩, .int .i64 0, .int .i64 3]) (by simp [results, Tryz.results14, go_sem, m0, m1, m2, m3, m4, m5]) rfl ⟨.slice none 0 0, ret_val ?_, ?_, (((((((HBEL.out.trans (HB7.out.mono HBEL.out.size)).setCell (Nat.le_refl _) _).setCell (Nat.le_refl _) _).setCell (Nat.le_refl _) _).setCell (Nat.le_refl _) _).setCell (Nat.le_refl _) _).setCell (Nat.le_refl _) _)⟩
          · rw [HNC.out, hob]; rfl
          · rw [HNL.out, hob]; exact RMsgOwn.nil _ _
        · go_wp2_with (first | (go_at_call 51; refine (rd_whole (t := t) HQ1.out _ _ HRD.out).mono ?_; rintro e w6 ⟨rfl, hb6⟩; have HB6 := hide hb6; clear hb6) | (go_at_call 22; refine (i_net HQ2.out _ w6 HMO.out ((HOWN'.out.below HB6.out).sl HML.out)).mono ?_; rintro e w7 ⟨rfl, hb7⟩; have HB7 : Hid (Below wr.heap.size wr w7) := hide (HB6.out.trans (hb7.mono HB6.out.size)); have HN7 := hide (HNO.out.keep (below_apart HB7.out) (by simp)); obtain ⟨m0, m1, m2, m3, m4, m5, fz⟩ := HN7.out; clear hb7))
          have hob : okB t = true := HOB.out
          refine bodyPost_ret (v := .agg #[.slice p N cp, .string ⟨#[]⟩, .string ⟨#[]⟩, .string ⟨#[]⟩, .int .i64 0, .int .i64 0]) (by simp [results, Tryz.results14, go_sem, m0, m1, m2, m3, m4, m5]) rfl ⟨.slice p N cp, ret_val ?_, ?_, (((((((HBEL.out.trans (HB7.out.mono HBEL.out.size)).setCell (Nat.le_refl _) _).setCell (Nat.le_refl _) _).setCell (Nat.le_refl _) _).setCell (Nat.le_refl _) _).setCell (Nat.le_refl _) _).setCell (Nat.le_refl _) _)⟩
          · rw [HNC.out, hob]; rfl
          · rw [HNL.out, hob, if_pos rfl]
            exact owns_down (owns_keep (HOWN'.out.below HB7.out) (((((((Apart.weak (Apart.refl _)).setCell _ _).setCell _ _).setCell _ _).setCell _ _).setCell _ _).setCell _ _) (fun b hb hn => by have := (owns_fresh HOWN.out).lo b hb; simp at hn; omega)) (by omega)
set_option maxRecDepth 100000 in
set_option maxHeartbeats 2000000 in
theorem i_netRead_any (t : ByteArray) (w : World) (hs : t.size ≤ maxLen) :
    Calls Tryz.prog 14 #[.string t] w fun e w' => ∃ v, e = .returned (netV v noRMsg (netC t)) ∧ RMsgOwn w' w.heap.size v (netL t) ∧ Below w.heap.size w w' := by
  by_cases h : 8000 < t.size
  · unfold maxLen at hs
    have HC : Hid (netC t = 2) := hide (if_pos h)
    have HL : Hid (netL t = []) := hide (if_pos h)
    go_enter Tryz.func14, Tryz.ntmps14
    go_wp2_with fail
    refine bodyPost_ret (v := .agg #[.slice none 0 0, .string ⟨#[]⟩, .string ⟨#[]⟩, .string ⟨#[]⟩, .int .i64 0, .int .i64 2]) (by simp [results, Tryz.results14, go_sem]) rfl ⟨.slice none 0 0, ret_val ?_, ?_, (Below.refl _ _).alloc (Nat.le_refl _) _⟩
    · rw [HC.out]; rfl
    · rw [HL.out]; exact RMsgOwn.nil _ _
  · exact i_netRead t w (by omega)
end Go.Proofs.YtonafcifolddjaaGreatDoor
