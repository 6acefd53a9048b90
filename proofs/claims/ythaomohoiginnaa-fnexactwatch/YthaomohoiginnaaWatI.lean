/- Watch of the program and of the specification. -/
import Derived.Test.YthaomohoiginnaaFollI
import Derived.Test.YthaomohoiginnaaStepT
namespace Go.Proofs.Ythaomohoiginnaa
open Go.RowKit Go.Maps
attribute [local go_sem ↓] Go.wp_at_zero Go.wp_at_succ

/-- the first act that can't be followed -/
def watchR (m : Mach) (l : List RAct) : Int := if decide (l.length ≤ 60) && machB m then (if 0 ≤ followR m l then -1 else -1 - followR m l) else -1
theorem followK_range {m : Mach} (h : machB m = true) : ∀ (l : List RAct) (s : Int) (k : Nat), 0 ≤ s → s < (m.states.length : Int) → -1 - ((k + l.length : Nat) : Int) ≤ followK m s l k ∧ followK m s l k ≤ (m.states.length : Int)
  | [], s, k, h0, h1 => by rw [followK]; omega
  | a :: l, s, k, h0, h1 => by
    rw [followK]
    split
    · have : (m.states.length : Int) ≥ 0 := by omega
      simp only [List.length_cons]
      omega
    · rename_i hn
      rcases stepF_range h s a with e | ⟨e1, e2⟩
      · omega
      · have := followK_range h l (stepF m s a) (k + 1) e1 e2
        simp only [List.length_cons]
        omega
theorem follow_range {m : Mach} {l : List RAct} (hl : l.length ≤ 60) (hm : machB m = true) : -61 ≤ followR m l ∧ followR m l ≤ 40 := by
  have h1 := start_range hm
  have h2 := mach_40 hm
  have := followK_range hm l m.start 0 h1.1 h1.2
  unfold followR
  rw [decide_eq_true hl, hm]
  simp only [Bool.and_self, if_true]
  omega
set_option maxRecDepth 100000 in
set_option maxHeartbeats 1000000 in
theorem watch_i (m : Mach) (l : List RAct) (v u : Value) (w : World) (hf : m.fit) (hr : ∀ a ∈ l, a.rng ∧ a.ok) (hv : MachAt w v m) (hu : RActSl w w.heap.size u l) :
    Calls Try.prog 52 #[v, u] w fun e w' => e = .returned (.int .i64 (watchR m l)) ∧ Below w.heap.size w w' := by
  have HF := hide hf
  have HAR := hide hr
  have HV : Hid (∀ W, Below w.heap.size w W → MachAt W v m) := hide (fun W hb => hv.carry hb)
  have HU : Hid (∀ W, Below w.heap.size w W → RActSl W W.heap.size u l) := hide (fun W hb => (hu.carry hb).up hb.size)
  obtain ⟨sv, ev, rfl, hs, he⟩ := hv
  obtain ⟨sa, sc, rfl, -⟩ := hs
  obtain ⟨ea, ec, rfl, -⟩ := he
  obtain ⟨la, lc, rfl, hl1, hl2, hl3⟩ := hu
  obtain ⟨q1, hq1⟩ : ∃ q1, machB m = q1 := ⟨_, rfl⟩
  have HQ1 := hide hq1
  obtain ⟨n, hn⟩ : ∃ n, followR m l = n := ⟨_, rfl⟩
  have HR0 : Hid (watchR m l = if decide (l.length ≤ 60) && q1 then (if 0 ≤ n then -1 else -1 - n) else -1) := hide (by rw [watchR, hq1, hn])
  have HFO : Hid (∀ (v u : Value) (W : World), MachAt W v m → RActSl W W.heap.size u l → Calls Try.prog 41 #[v, u] W fun e w' => e = .returned (.int .i64 n) ∧ Below W.heap.size W w') := hide (fun v u W h1 h2 => by rw [← hn]; exact follow_i m l v u W hf hr h1 h2)
  have HRG : Hid (l.length ≤ 60 → q1 = true → -61 ≤ n ∧ n ≤ 40) := hide (fun h1 h2 => by rw [← hn]; exact follow_range h1 (by rw [hq1]; exact h2))
  clear hq1 hf hl3 hr hn
  have HGO : Hid (∀ W A, W = w.alloc A → Below w.heap.size w W) := hide (fun W A hW => by rw [hW]; exact malloc1 _ _)
  by_cases h60 : 60 < l.length
  · have HR : Hid (watchR m l = -1) := hide (by rw [HR0.out, decide_eq_false (by omega)]; rfl)
    have h60' : decide (60 < (l.length : Int)) = true := decide_eq_true (by omega)
    go_enter Try.func52, Try.ntmps52
    go_wp2_with fail
    go_ret
    exact ⟨ret_int HR.out, malloc1 _ _⟩
  · have h60' : decide (60 < (l.length : Int)) = false := decide_eq_false (by omega)
    have HD : Hid (decide (l.length ≤ 60) = true) := hide (decide_eq_true (by omega))
    cases q1
    · have HR : Hid (watchR m l = -1) := hide (by rw [HR0.out, HD.out]; rfl)
      go_enter Try.func52, Try.ntmps52
      go_wp2_with (go_at_call 27; refine (machine_right_at HQ1.out _ _ HF.out (HV.out _ (malloc1 _ _))).mono ?_; rintro e w1 ⟨rfl, hb1⟩; have HB1 := hide ((malloc1 w _).trans (hb1.mono (by simp))); clear hb1)
      go_ret
      exact ⟨ret_int HR.out, HB1.out⟩
    · obtain ⟨hn1, hn2⟩ := HRG.out (by omega) rfl
      by_cases hn0 : 0 ≤ n
      · have HR : Hid (watchR m l = -1) := hide (by rw [HR0.out, HD.out, if_pos (by rfl), if_pos hn0])
        go_enter Try.func52, Try.ntmps52
        go_wp2_with (first
          | (go_at_call 27; refine (machine_right_at HQ1.out _ _ HF.out (HV.out _ (malloc1 _ _))).mono ?_; rintro e w1 ⟨rfl, hb1⟩; have HB1 := hide ((malloc1 w _).trans (hb1.mono (by simp))); have b0 := (hb1.cell (p := ⟨w.heap.size, 0, none⟩) (by simp)); have b1 := (hb1.cell (p := ⟨w.heap.size, 1, none⟩) (by simp)); have b2 := (hb1.cell (p := ⟨w.heap.size, 2, none⟩) (by simp)); simp at b0 b1 b2; clear hb1)
          | (go_at_call 41; refine (HFO.out _ _ _ (HV.out _ HB1.out) (HU.out _ HB1.out)).mono ?_; rintro e w2 ⟨rfl, hb2⟩; have HB2 := hide (HB1.out.trans (hb2.mono HB1.out.size)); clear hb2))
        go_ret
        exact ⟨ret_int HR.out, HB2.out⟩
      · have HR : Hid (watchR m l = -1 - n) := hide (by rw [HR0.out, HD.out, if_pos (by rfl), if_neg hn0])
        go_enter Try.func52, Try.ntmps52
        go_wp2_with (first
          | (go_at_call 27; refine (machine_right_at HQ1.out _ _ HF.out (HV.out _ (malloc1 _ _))).mono ?_; rintro e w1 ⟨rfl, hb1⟩; have HB1 := hide ((malloc1 w _).trans (hb1.mono (by simp))); have b0 := (hb1.cell (p := ⟨w.heap.size, 0, none⟩) (by simp)); have b1 := (hb1.cell (p := ⟨w.heap.size, 1, none⟩) (by simp)); have b2 := (hb1.cell (p := ⟨w.heap.size, 2, none⟩) (by simp)); simp at b0 b1 b2; clear hb1)
          | (go_at_call 41; refine (HFO.out _ _ _ (HV.out _ HB1.out) (HU.out _ HB1.out)).mono ?_; rintro e w2 ⟨rfl, hb2⟩; have HB2 := hide (HB1.out.trans (hb2.mono HB1.out.size)); clear hb2))
        go_ret
        exact ⟨ret_int HR.out, HB2.out⟩
set_option maxRecDepth 100000 in
set_option maxHeartbeats 1000000 in
theorem watch_s (m : Mach) (l : List RAct) (v u : Value) (w : World) (hf : m.fit) (hv : MachAt w v m) (hu : RActSl w w.heap.size u l) :
    Calls Try.prog 51 #[v, u] w fun e w' => e = .returned (.int .i64 (watchR m l)) ∧ Below w.heap.size w w' := by
  have HF := hide hf
  have HV : Hid (∀ W, Below w.heap.size w W → MachAt W v m) := hide (fun W hb => hv.carry hb)
  have HU : Hid (∀ W, Below w.heap.size w W → RActSl W W.heap.size u l) := hide (fun W hb => (hu.carry hb).up hb.size)
  obtain ⟨sv, ev, rfl, hs, he⟩ := hv
  obtain ⟨sa, sc, rfl, -⟩ := hs
  obtain ⟨ea, ec, rfl, -⟩ := he
  obtain ⟨la, lc, rfl, hl1, hl2, hl3⟩ := hu
  obtain ⟨q1, hq1⟩ : ∃ q1, machB m = q1 := ⟨_, rfl⟩
  have HQ1 := hide hq1
  obtain ⟨n, hn⟩ : ∃ n, followR m l = n := ⟨_, rfl⟩
  have HR0 : Hid (watchR m l = if decide (l.length ≤ 60) && q1 then (if 0 ≤ n then -1 else -1 - n) else -1) := hide (by rw [watchR, hq1, hn])
  have HFO : Hid (∀ (v u : Value) (W : World), MachAt W v m → RActSl W W.heap.size u l → Calls Try.prog 39 #[v, u] W fun e w' => e = .returned (.int .i64 n) ∧ Below W.heap.size W w') := hide (fun v u W h1 h2 => by rw [← hn]; exact s_follow m l v u W hf h1 h2)
  have HRG : Hid (l.length ≤ 60 → q1 = true → -61 ≤ n ∧ n ≤ 40) := hide (fun h1 h2 => by rw [← hn]; exact follow_range h1 (by rw [hq1]; exact h2))
  clear hq1 hf hl3 hn
  by_cases h60 : 60 < l.length
  · have HR : Hid (watchR m l = -1) := hide (by rw [HR0.out, decide_eq_false (by omega)]; rfl)
    have h60' : decide (60 < (l.length : Int)) = true := decide_eq_true (by omega)
    go_enter Try.func51, Try.ntmps51
    go_wp2_with (go_at_call 39; refine (HFO.out _ _ _ (HV.out _ (malloc1 _ _)) (HU.out _ (malloc1 _ _))).mono ?_; rintro e w1 ⟨rfl, hb1⟩; have HB1 := hide ((malloc1 w _).trans (hb1.mono (by simp))); clear hb1)
    go_ret
    exact ⟨ret_int HR.out, HB1.out⟩
  · have h60' : decide (60 < (l.length : Int)) = false := decide_eq_false (by omega)
    have HD : Hid (decide (l.length ≤ 60) = true) := hide (decide_eq_true (by omega))
    cases q1
    · have HR : Hid (watchR m l = -1) := hide (by rw [HR0.out, HD.out]; rfl)
      go_enter Try.func51, Try.ntmps51
      go_wp2_with (first
        | (go_at_call 39; refine (HFO.out _ _ _ (HV.out _ (malloc1 _ _)) (HU.out _ (malloc1 _ _))).mono ?_; rintro e w1 ⟨rfl, hb1⟩; have HB1 := hide ((malloc1 w _).trans (hb1.mono (by simp))); have b0 := (hb1.cell (p := ⟨w.heap.size, 0, none⟩) (by simp)); have b1 := (hb1.cell (p := ⟨w.heap.size, 1, none⟩) (by simp)); have b2 := (hb1.cell (p := ⟨w.heap.size, 2, none⟩) (by simp)); simp at b0 b1 b2; clear hb1)
        | (go_at_call 25; refine (s_machineRight_at HQ1.out _ _ HF.out (HV.out _ HB1.out)).mono ?_; rintro e w2 ⟨rfl, hb2⟩; have HB2 := hide (HB1.out.trans (hb2.mono HB1.out.size)); clear hb2))
      go_ret
      exact ⟨ret_int HR.out, HB2.out⟩
    · obtain ⟨hn1, hn2⟩ := HRG.out (by omega) rfl
      by_cases hn0 : 0 ≤ n
      · have HR : Hid (watchR m l = -1) := hide (by rw [HR0.out, HD.out, if_pos (by rfl), if_pos hn0])
        go_enter Try.func51, Try.ntmps51
        go_wp2_with (first
          | (go_at_call 39; refine (HFO.out _ _ _ (HV.out _ (malloc1 _ _)) (HU.out _ (malloc1 _ _))).mono ?_; rintro e w1 ⟨rfl, hb1⟩; have HB1 := hide ((malloc1 w _).trans (hb1.mono (by simp))); have b0 := (hb1.cell (p := ⟨w.heap.size, 0, none⟩) (by simp)); have b1 := (hb1.cell (p := ⟨w.heap.size, 1, none⟩) (by simp)); have b2 := (hb1.cell (p := ⟨w.heap.size, 2, none⟩) (by simp)); simp at b0 b1 b2; clear hb1)
          | (go_at_call 25; refine (s_machineRight_at HQ1.out _ _ HF.out (HV.out _ HB1.out)).mono ?_; rintro e w2 ⟨rfl, hb2⟩; have HB2 := hide (HB1.out.trans (hb2.mono HB1.out.size)); clear hb2))
        go_ret
        exact ⟨ret_int HR.out, HB2.out⟩
      · have HR : Hid (watchR m l = -1 - n) := hide (by rw [HR0.out, HD.out, if_pos (by rfl), if_neg hn0])
        go_enter Try.func51, Try.ntmps51
        go_wp2_with (first
          | (go_at_call 39; refine (HFO.out _ _ _ (HV.out _ (malloc1 _ _)) (HU.out _ (malloc1 _ _))).mono ?_; rintro e w1 ⟨rfl, hb1⟩; have HB1 := hide ((malloc1 w _).trans (hb1.mono (by simp))); have b0 := (hb1.cell (p := ⟨w.heap.size, 0, none⟩) (by simp)); have b1 := (hb1.cell (p := ⟨w.heap.size, 1, none⟩) (by simp)); have b2 := (hb1.cell (p := ⟨w.heap.size, 2, none⟩) (by simp)); simp at b0 b1 b2; clear hb1)
          | (go_at_call 25; refine (s_machineRight_at HQ1.out _ _ HF.out (HV.out _ HB1.out)).mono ?_; rintro e w2 ⟨rfl, hb2⟩; have HB2 := hide (HB1.out.trans (hb2.mono HB1.out.size)); clear hb2))
        go_ret
        exact ⟨ret_int HR.out, HB2.out⟩
end Go.Proofs.Ythaomohoiginnaa
