import Derived.Test.YtlbcnmcfljaijaaQF19
import Derived.Test.YtlbcnmcfljaijaaQF00
import Derived.Test.YtlbcnmcfljaijaaQF09
import Derived.Test.YtlbcnmcfljaijaaQF15
import Derived.Test.YtlbcnmcfljaijaaQF04
import Derived.Test.YtlbcnmcfljaijaaQF17
namespace Go.Proofs.Ytlbcnmcfljaijaa
open Go.RowKit

theorem ba_ext {a b : ByteArray} (h : a.data.toList = b.data.toList) : a = b := by
  apply ByteArray.ext
  exact Array.ext' h
end Go.Proofs.Ytlbcnmcfljaijaa
namespace Go.Proofs.Ytlbcnmcfljaijaa
open Go.RowKit

theorem SlAt.lenm {w : World} {B : Nat} {v : Value} {ns : List Nd} (h : SlAt w B v ns) : ns.length ≤ 4294967296 := by
  obtain ⟨ao, cap, _, h1, h2, _⟩ := h
  omega
theorem SlAt.up {w : World} {B B' : Nat} {v : Value} {ns : List Nd} (h : SlAt w B v ns) (hB : B ≤ B') : SlAt w B' v ns := by
  obtain ⟨ao, cap, h1, h2, h3, h4⟩ := h
  refine ⟨ao, cap, h1, h2, h3, fun hne => ?_⟩
  obtain ⟨b, o, e, hlt, hr⟩ := h4 hne
  exact ⟨b, o, e, by omega, hr⟩

theorem end_len (T : Nd → Bool) (ns : List Nd) : (endPos ns (ahead T 10 [] ns) == (ns.length : Int)) = ((ahead T 10 [] ns).map List.length == some 0) := by
  cases ha : ahead T 10 [] ns with
  | none =>
    have h1 : (endPos ns none == (ns.length : Int)) = false := by
      rw [beq_eq_false_iff_ne]; simp only [endPos]; omega
    rw [h1]; rfl
  | some r =>
    have hs := (ahead_suffix T 10 [] ns r ha).length_le
    have hp : 0 < ns.length := by
      cases ns with
      | nil => cases ha
      | cons => simp
    simp only [endPos, Option.map_some]
    by_cases h0 : r.length = 0
    · have h1 : (((ns.length - r.length : Nat) : Int) == (ns.length : Int)) = true := by rw [beq_iff_eq]; omega
      rw [h1, h0]; rfl
    · have h1 : (((ns.length - r.length : Nat) : Int) == (ns.length : Int)) = false := by rw [beq_eq_false_iff_ne]; omega
      rw [h1]
      symm
      rw [beq_eq_false_iff_ne]
      intro h; injection h with h; exact h0 h
theorem look_new {w : World} {ns : List Nd} {ao : Option Addr} {cap : Nat} (h : SlAt w w.heap.size (.slice ao ns.length cap) ns) (part : Bool) (t : TypeId) : LookAt (w.alloc (.cells #[.slice ao ns.length cap, .bool part] t)) w.heap.size part ns := by
  obtain ⟨ao', cap', e, h1, h2, h3⟩ := h
  obtain ⟨rfl, rfl⟩ : ao = ao' ∧ cap = cap' := by simpa using e
  refine ⟨ao, cap, by simp, by simp, h1, by omega, fun hne => ?_⟩
  obtain ⟨b, o, rfl, hlt, hr⟩ := h3 hne
  exact ⟨b, o, rfl, hr.carry hlt (alloc1 _ _)⟩

set_option maxHeartbeats 400000 in
theorem s_right (part : Bool) (ns : List Nd) (v : Value) (w : World) (fit : ∀ n ∈ ns, n.fit) (hv : SlAt w w.heap.size v ns) :
    Calls Try.prog 53 #[v, .bool part] w fun e w' => e = .returned (.bool (rightB part ns)) ∧ Below w.heap.size w w' := by
  have HV := hide hv
  have HF := hide fit
  have HEL := hide (end_len (talkS part) ns)
  have HB := hide (show rightB part ns = (decide (ns.length ≤ 40) && ((ahead (talkS part) 10 [] ns).map List.length == some 0 && decide ((rolesS ns).length ≤ 4))) from rfl)
  obtain ⟨ao, cap, rfl, hc, hm, hr⟩ := hv
  clear hr fit
  by_cases hl : ns.length ≤ 40
  · have HLK := hide (fun t => look_new HV.out part t)
    obtain ⟨ep, hep⟩ : ∃ ep, endPos ns (ahead (talkS part) 10 [] ns) = ep := ⟨_, rfl⟩
    obtain ⟨eb, heb⟩ : ∃ eb, (ep == (ns.length : Int)) = eb := ⟨_, rfl⟩
    have HEP := hide hep
    have HEB := hide heb
    clear hep
    cases eb
    · go_enter Try.func53, Try.ntmps53
      go_wp2_with (go_at_call 66; refine (end_calls part 10 [] ns 0 _ _ _ _ _ _ rfl trivial (fun n hn => (HF.out n hn).ok) rfl (Nat.zero_le _) rfl rfl (HLK.out _) ⟨none, 0, rfl, Nat.le_refl _, by simp [recsOf], fun h => absurd rfl h⟩ (fun _ => rfl)).mono ?_; rintro e w1 ⟨rfl, hb1⟩; rw [List.drop_zero, HEP.out]; have HB1 : Hid (Below w.heap.size w w1) := hide ((alloc1 _ _).trans (hb1.mono (by simp))); clear hb1)
      go_ret
      refine ⟨ret_bool ?_, HB1.out⟩
      have h := HEL.out
      rw [HEP.out, HEB.out] at h
      rw [HB.out, ← h]; simp
    · go_enter Try.func53, Try.ntmps53
      go_wp2_with (first | (go_at_call 66; refine (end_calls part 10 [] ns 0 _ _ _ _ _ _ rfl trivial (fun n hn => (HF.out n hn).ok) rfl (Nat.zero_le _) rfl rfl (HLK.out _) ⟨none, 0, rfl, Nat.le_refl _, by simp [recsOf], fun h => absurd rfl h⟩ (fun _ => rfl)).mono ?_; rintro e w1 ⟨rfl, hb1⟩; rw [List.drop_zero, HEP.out]; have HB1 : Hid (Below w.heap.size w w1) := hide ((alloc1 _ _).trans (hb1.mono (by simp))); clear hb1) | (go_at_call 67; refine (s_roles ns _ _ ((HV.out.carry HB1.out).up HB1.out.size) hl).mono ?_; rintro e w2 ⟨v2, rfl, hs2, hb2⟩; obtain ⟨b2, o2, cap2, rfl, hs3⟩ := hs2; have HB2 := hide hb2; clear hs3 hb2))
      go_ret
      refine ⟨ret_bool ?_, HB1.out.trans (HB2.out.mono HB1.out.size)⟩
      have h := HEL.out
      rw [HEP.out, HEB.out] at h
      have e : decide (((rolesS ns).length : Int) ≤ 4) = decide ((rolesS ns).length ≤ 4) := by rw [decide_eq_decide]; omega
      rw [HB.out, ← h, e]; simp [hl]
  · go_enter Try.func53, Try.ntmps53
    go_wp2_with fail
    go_ret
    refine ⟨ret_bool ?_, Below.refl _ _⟩
    rw [HB.out, decide_eq_false hl]; rfl
end Go.Proofs.Ytlbcnmcfljaijaa
namespace Go.Proofs.Ytlbcnmcfljaijaa
open Go.RowKit
attribute [local go_sem ↓] Go.wp_at_zero Go.wp_at_succ

structure TalkAt (w0 w : World) (B wb mb base nf0 : Nat) (go : List Nd → Wv → Int × List Nd × Wv) (ka : List Nd → Option (List Nd)) (s : Int) (l0 r : List Nd) (fin : List Nd × Wv) (m : Nat) (rv : Value) (lk : List Nd) (Wk : Wv) (sv ev : Value) (nf : Nat) : Prop where
  sl : SlAt w B rv lk
  sh : Short lk
  ah : ∃ ls, kidsBy ka m ls lk = some r
  we : WeAt w wb mb base sv ev nf Wk
  same : wvKids go s m lk Wk = fin
  fit : Fits lk Wk nf
  nf : nf + lk.length ≤ nf0 + l0.length
  kept : Kept w0 w base [wb, mb]
end Go.Proofs.Ytlbcnmcfljaijaa
namespace Go.Proofs.Ytlbcnmcfljaijaa
open Go.RowKit

def BrSl {α : Type} (pa : α → Value → Prop) (w : World) (S : Nat → Prop) (v : Value) (l : List (Br α)) : Prop := ∃ ao cap, v = .slice ao l.length cap ∧ l.length ≤ cap ∧ cap ≤ maxLen ∧ (l ≠ [] → ∃ g o, ao = some ⟨g, o, none⟩ ∧ S g ∧ ∀ (i : Nat) (b : Br α), l[i]? = some b → w.cell? ⟨g, o + i * 3, none⟩ = some (.string b.l) ∧ w.cell? ⟨g, o + i * 3 + 1, none⟩ = some (.int .i64 b.s) ∧ ∃ u, w.cell? ⟨g, o + i * 3 + 2, none⟩ = some u ∧ pa b.p u)
theorem BrSl.carry {α : Type} {pa pa' : α → Value → Prop} {w w' : World} {S S' : Nat → Prop} {v : Value} {l : List (Br α)} (h : BrSl pa w S v l) (hb : ∀ g, S g → w'.heap[g]? = w.heap[g]?) (hB : ∀ g, S g → S' g) (hp : ∀ b ∈ l, ∀ u, pa b.p u → pa' b.p u) : BrSl pa' w' S' v l := by
  obtain ⟨ao, cap, e, h1, h2, h3⟩ := h
  refine ⟨ao, cap, e, h1, h2, fun hne => ?_⟩
  obtain ⟨g, o, e1, e2, e3⟩ := h3 hne
  refine ⟨g, o, e1, hB g e2, fun i b hi => ?_⟩
  obtain ⟨k1, k2, u, k3, k4⟩ := e3 i b hi
  exact ⟨(World.cell?_of_block (a := ⟨g, o + i * 3, none⟩) (hb g e2)).trans k1, (World.cell?_of_block (a := ⟨g, o + i * 3 + 1, none⟩) (hb g e2)).trans k2, u, (World.cell?_of_block (a := ⟨g, o + i * 3 + 2, none⟩) (hb g e2)).trans k3, hp b (List.mem_of_getElem? hi) u k4⟩
structure BV (n : Nat) where
  b : Br (Pn n)
  u : Value
def BV.cells {n : Nat} (x : BV n) : List Value := [.string x.b.l, .int .i64 x.b.s, x.u]
theorem BV.cells_len {n : Nat} (x : BV n) : x.cells.length = 3 := rfl
def lo (n : Nat) : Nat → Prop := fun b => b < n
def off (a n : Nat) (v : Value) : Nat → Prop := fun b => (a ≤ b ∧ b < n) ∧ b ∉ vblocks v
section
variable {n : Nat}
end
theorem new_rowq (w : World) (cs : List Value) (t : TypeId) (b : Nat) (hb : b = w.heap.size) (j : Nat) (u : Value) (h : cs[j]? = some u) : (w.alloc (.cells cs.toArray t)).cell? (Addr.add ⟨b, 0, none⟩ j) = some u := by subst hb; exact new_row1 w cs t j u h
theorem leaf_pos (x : Option ByteArray) : 0 < (leafRow x).length := by cases x <;> simp [leafRow]
theorem row_pos : ∀ (n : Nat) (p : Pn n), 0 < (rowN n p).length
  | 0, p => leaf_pos p
  | n + 1, p => Pn.cases (P := fun p => 0 < (rowN (n + 1) p).length) (fun x => leaf_pos x) (fun x q => by rw [row_loop]; simp) (fun t l => by rw [row_talk]; simp) p
end Go.Proofs.Ytlbcnmcfljaijaa
namespace Go.Proofs.Ytlbcnmcfljaijaa
open Go.RowKit Go.Maps
attribute [local go_sem ↓] Go.wp_at_zero Go.wp_at_succ

def watchR (m : Mach) (l : List RAct) : Int := if decide (l.length ≤ 60) && machB m then (if 0 ≤ followR m l then -1 else -1 - followR m l) else -1
theorem followK_range {m : Mach} (h : machB m = true) : ∀ (l : List RAct) (s : Int) (k : Nat), 0 ≤ s → s < (m.states.length : Int) → -1 - ((k + l.length : Nat) : Int) ≤ followK m s l k ∧ followK m s l k ≤ (m.states.length : Int)
  | [], s, k, h0, h1 => by rw [followK]; omega
  | a :: l, s, k, h0, h1 => by
    rw [followK]
    split
    · have : (m.states.length : Int) ≥ 0 := by omega
      simp only [List.length_cons]
      omega
    · rename_i hn
      rcases stepF_range h s a with e | ⟨e1, e2⟩
      · omega
      · have := followK_range h l (stepF m s a) (k + 1) e1 e2
        simp only [List.length_cons]
        omega
theorem follow_range {m : Mach} {l : List RAct} (hl : l.length ≤ 60) (hm : machB m = true) : -61 ≤ followR m l ∧ followR m l ≤ 40 := by
  have h1 := start_range hm
  have h2 := mach_40 hm
  have := followK_range hm l m.start 0 h1.1 h1.2
  unfold followR
  rw [decide_eq_true hl, hm]
  simp only [Bool.and_self, if_true]
  omega
set_option maxRecDepth 100000 in
set_option maxHeartbeats 1000000 in
theorem watch_i (m : Mach) (l : List RAct) (v u : Value) (w : World) (hf : m.fit) (hr : ∀ a ∈ l, a.rng ∧ a.ok) (hv : MachAt w v m) (hu : RActSl w w.heap.size u l) :
    Calls Try.prog 7 #[v, u] w fun e w' => e = .returned (.int .i64 (watchR m l)) ∧ Below w.heap.size w w' := by
  have HF := hide hf
  have HAR := hide hr
  have HV : Hid (∀ W, Below w.heap.size w W → MachAt W v m) := hide (fun W hb => hv.carry hb)
  have HU : Hid (∀ W, Below w.heap.size w W → RActSl W W.heap.size u l) := hide (fun W hb => (hu.carry hb).up hb.size)
  obtain ⟨sv, ev, rfl, hs, he⟩ := hv
  obtain ⟨sa, sc, rfl, -⟩ := hs
  obtain ⟨ea, ec, rfl, -⟩ := he
  obtain ⟨la, lc, rfl, hl1, hl2, hl3⟩ := hu
  obtain ⟨q1, hq1⟩ : ∃ q1, machB m = q1 := ⟨_, rfl⟩
  have HQ1 := hide hq1
  obtain ⟨n, hn⟩ : ∃ n, followR m l = n := ⟨_, rfl⟩
  have HR0 : Hid (watchR m l = if decide (l.length ≤ 60) && q1 then (if 0 ≤ n then -1 else -1 - n) else -1) := hide (by rw [watchR, hq1, hn])
  have HFO : Hid (∀ (v u : Value) (W : World), MachAt W v m → RActSl W W.heap.size u l → Calls Try.prog 5 #[v, u] W fun e w' => e = .returned (.int .i64 n) ∧ Below W.heap.size W w') := hide (fun v u W h1 h2 => by rw [← hn]; exact follow_i m l v u W hf hr h1 h2)
  have HRG : Hid (l.length ≤ 60 → q1 = true → -61 ≤ n ∧ n ≤ 40) := hide (fun h1 h2 => by rw [← hn]; exact follow_range h1 (by rw [hq1]; exact h2))
  clear hq1 hf hl3 hr hn
  have HGO : Hid (∀ W A, W = w.alloc A → Below w.heap.size w W) := hide (fun W A hW => by rw [hW]; exact malloc1 _ _)
  by_cases h60 : 60 < l.length
  · have HR : Hid (watchR m l = -1) := hide (by rw [HR0.out, decide_eq_false (by omega)]; rfl)
    have h60' : decide (60 < (l.length : Int)) = true := decide_eq_true (by omega)
    go_enter Try.func7, Try.ntmps7
    go_wp2_with fail
    go_ret
    exact ⟨ret_int HR.out, malloc1 _ _⟩
  · have h60' : decide (60 < (l.length : Int)) = false := decide_eq_false (by omega)
    have HD : Hid (decide (l.length ≤ 60) = true) := hide (decide_eq_true (by omega))
    cases q1
    · have HR : Hid (watchR m l = -1) := hide (by rw [HR0.out, HD.out]; rfl)
      go_enter Try.func7, Try.ntmps7
      go_wp2_with (go_at_call 18; refine (machine_right_at HQ1.out _ _ HF.out (HV.out _ (malloc1 _ _))).mono ?_; rintro e w1 ⟨rfl, hb1⟩; have HB1 := hide ((malloc1 w _).trans (hb1.mono (by simp))); clear hb1)
      go_ret
      exact ⟨ret_int HR.out, HB1.out⟩
    · obtain ⟨hn1, hn2⟩ := HRG.out (by omega) rfl
      by_cases hn0 : 0 ≤ n
      · have HR : Hid (watchR m l = -1) := hide (by rw [HR0.out, HD.out, if_pos (by rfl), if_pos hn0])
        go_enter Try.func7, Try.ntmps7
        go_wp2_with (first
          | (go_at_call 18; refine (machine_right_at HQ1.out _ _ HF.out (HV.out _ (malloc1 _ _))).mono ?_; rintro e w1 ⟨rfl, hb1⟩; have HB1 := hide ((malloc1 w _).trans (hb1.mono (by simp))); have b0 := (hb1.cell (p := ⟨w.heap.size, 0, none⟩) (by simp)); have b1 := (hb1.cell (p := ⟨w.heap.size, 1, none⟩) (by simp)); have b2 := (hb1.cell (p := ⟨w.heap.size, 2, none⟩) (by simp)); simp at b0 b1 b2; clear hb1)
          | (go_at_call 5; refine (HFO.out _ _ _ (HV.out _ HB1.out) (HU.out _ HB1.out)).mono ?_; rintro e w2 ⟨rfl, hb2⟩; have HB2 := hide (HB1.out.trans (hb2.mono HB1.out.size)); clear hb2))
        go_ret
        exact ⟨ret_int HR.out, HB2.out⟩
      · have HR : Hid (watchR m l = -1 - n) := hide (by rw [HR0.out, HD.out, if_pos (by rfl), if_neg hn0])
        go_enter Try.func7, Try.ntmps7
        go_wp2_with (first
          | (go_at_call 18; refine (machine_right_at HQ1.out _ _ HF.out (HV.out _ (malloc1 _ _))).mono ?_; rintro e w1 ⟨rfl, hb1⟩; have HB1 := hide ((malloc1 w _).trans (hb1.mono (by simp))); have b0 := (hb1.cell (p := ⟨w.heap.size, 0, none⟩) (by simp)); have b1 := (hb1.cell (p := ⟨w.heap.size, 1, none⟩) (by simp)); have b2 := (hb1.cell (p := ⟨w.heap.size, 2, none⟩) (by simp)); simp at b0 b1 b2; clear hb1)
          | (go_at_call 5; refine (HFO.out _ _ _ (HV.out _ HB1.out) (HU.out _ HB1.out)).mono ?_; rintro e w2 ⟨rfl, hb2⟩; have HB2 := hide (HB1.out.trans (hb2.mono HB1.out.size)); clear hb2))
        go_ret
        exact ⟨ret_int HR.out, HB2.out⟩
set_option maxRecDepth 100000 in
set_option maxHeartbeats 1000000 in
theorem watch_s (m : Mach) (l : List RAct) (v u : Value) (w : World) (hf : m.fit) (hv : MachAt w v m) (hu : RActSl w w.heap.size u l) :
    Calls Try.prog 9 #[v, u] w fun e w' => e = .returned (.int .i64 (watchR m l)) ∧ Below w.heap.size w w' := by
  have HF := hide hf
  have HV : Hid (∀ W, Below w.heap.size w W → MachAt W v m) := hide (fun W hb => hv.carry hb)
  have HU : Hid (∀ W, Below w.heap.size w W → RActSl W W.heap.size u l) := hide (fun W hb => (hu.carry hb).up hb.size)
  obtain ⟨sv, ev, rfl, hs, he⟩ := hv
  obtain ⟨sa, sc, rfl, -⟩ := hs
  obtain ⟨ea, ec, rfl, -⟩ := he
  obtain ⟨la, lc, rfl, hl1, hl2, hl3⟩ := hu
  obtain ⟨q1, hq1⟩ : ∃ q1, machB m = q1 := ⟨_, rfl⟩
  have HQ1 := hide hq1
  obtain ⟨n, hn⟩ : ∃ n, followR m l = n := ⟨_, rfl⟩
  have HR0 : Hid (watchR m l = if decide (l.length ≤ 60) && q1 then (if 0 ≤ n then -1 else -1 - n) else -1) := hide (by rw [watchR, hq1, hn])
  have HFO : Hid (∀ (v u : Value) (W : World), MachAt W v m → RActSl W W.heap.size u l → Calls Try.prog 8 #[v, u] W fun e w' => e = .returned (.int .i64 n) ∧ Below W.heap.size W w') := hide (fun v u W h1 h2 => by rw [← hn]; exact s_follow m l v u W hf h1 h2)
  have HRG : Hid (l.length ≤ 60 → q1 = true → -61 ≤ n ∧ n ≤ 40) := hide (fun h1 h2 => by rw [← hn]; exact follow_range h1 (by rw [hq1]; exact h2))
  clear hq1 hf hl3 hn
  by_cases h60 : 60 < l.length
  · have HR : Hid (watchR m l = -1) := hide (by rw [HR0.out, decide_eq_false (by omega)]; rfl)
    have h60' : decide (60 < (l.length : Int)) = true := decide_eq_true (by omega)
    go_enter Try.func9, Try.ntmps9
    go_wp2_with (go_at_call 8; refine (HFO.out _ _ _ (HV.out _ (malloc1 _ _)) (HU.out _ (malloc1 _ _))).mono ?_; rintro e w1 ⟨rfl, hb1⟩; have HB1 := hide ((malloc1 w _).trans (hb1.mono (by simp))); clear hb1)
    go_ret
    exact ⟨ret_int HR.out, HB1.out⟩
  · have h60' : decide (60 < (l.length : Int)) = false := decide_eq_false (by omega)
    have HD : Hid (decide (l.length ≤ 60) = true) := hide (decide_eq_true (by omega))
    cases q1
    · have HR : Hid (watchR m l = -1) := hide (by rw [HR0.out, HD.out]; rfl)
      go_enter Try.func9, Try.ntmps9
      go_wp2_with (first
        | (go_at_call 8; refine (HFO.out _ _ _ (HV.out _ (malloc1 _ _)) (HU.out _ (malloc1 _ _))).mono ?_; rintro e w1 ⟨rfl, hb1⟩; have HB1 := hide ((malloc1 w _).trans (hb1.mono (by simp))); have b0 := (hb1.cell (p := ⟨w.heap.size, 0, none⟩) (by simp)); have b1 := (hb1.cell (p := ⟨w.heap.size, 1, none⟩) (by simp)); have b2 := (hb1.cell (p := ⟨w.heap.size, 2, none⟩) (by simp)); simp at b0 b1 b2; clear hb1)
        | (go_at_call 10; refine (s_machineRight_at HQ1.out _ _ HF.out (HV.out _ HB1.out)).mono ?_; rintro e w2 ⟨rfl, hb2⟩; have HB2 := hide (HB1.out.trans (hb2.mono HB1.out.size)); clear hb2))
      go_ret
      exact ⟨ret_int HR.out, HB2.out⟩
    · obtain ⟨hn1, hn2⟩ := HRG.out (by omega) rfl
      by_cases hn0 : 0 ≤ n
      · have HR : Hid (watchR m l = -1) := hide (by rw [HR0.out, HD.out, if_pos (by rfl), if_pos hn0])
        go_enter Try.func9, Try.ntmps9
        go_wp2_with (first
          | (go_at_call 8; refine (HFO.out _ _ _ (HV.out _ (malloc1 _ _)) (HU.out _ (malloc1 _ _))).mono ?_; rintro e w1 ⟨rfl, hb1⟩; have HB1 := hide ((malloc1 w _).trans (hb1.mono (by simp))); have b0 := (hb1.cell (p := ⟨w.heap.size, 0, none⟩) (by simp)); have b1 := (hb1.cell (p := ⟨w.heap.size, 1, none⟩) (by simp)); have b2 := (hb1.cell (p := ⟨w.heap.size, 2, none⟩) (by simp)); simp at b0 b1 b2; clear hb1)
          | (go_at_call 10; refine (s_machineRight_at HQ1.out _ _ HF.out (HV.out _ HB1.out)).mono ?_; rintro e w2 ⟨rfl, hb2⟩; have HB2 := hide (HB1.out.trans (hb2.mono HB1.out.size)); clear hb2))
        go_ret
        exact ⟨ret_int HR.out, HB2.out⟩
      · have HR : Hid (watchR m l = -1 - n) := hide (by rw [HR0.out, HD.out, if_pos (by rfl), if_neg hn0])
        go_enter Try.func9, Try.ntmps9
        go_wp2_with (first
          | (go_at_call 8; refine (HFO.out _ _ _ (HV.out _ (malloc1 _ _)) (HU.out _ (malloc1 _ _))).mono ?_; rintro e w1 ⟨rfl, hb1⟩; have HB1 := hide ((malloc1 w _).trans (hb1.mono (by simp))); have b0 := (hb1.cell (p := ⟨w.heap.size, 0, none⟩) (by simp)); have b1 := (hb1.cell (p := ⟨w.heap.size, 1, none⟩) (by simp)); have b2 := (hb1.cell (p := ⟨w.heap.size, 2, none⟩) (by simp)); simp at b0 b1 b2; clear hb1)
          | (go_at_call 10; refine (s_machineRight_at HQ1.out _ _ HF.out (HV.out _ HB1.out)).mono ?_; rintro e w2 ⟨rfl, hb2⟩; have HB2 := hide (HB1.out.trans (hb2.mono HB1.out.size)); clear hb2))
        go_ret
        exact ⟨ret_int HR.out, HB2.out⟩
end Go.Proofs.Ytlbcnmcfljaijaa
