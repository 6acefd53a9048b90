import Derived.Test.YtaaeledleldllaaGreatQB43
import Derived.Test.YtaaeledleldllaaGreatQB42
import Derived.Test.YtaaeledleldllaaGreatQB41
import Derived.Test.YtaaeledleldllaaGreatQB19
import Derived.Test.YtaaeledleldllaaGreatQB44
import Derived.Test.YtaaeledleldllaaGreatQB40
namespace Go.Proofs.YtaaeledleldllaaGreat
open Go.RowKit
attribute [local go_sem ↓] Go.wp_at_zero Go.wp_at_succ

theorem SlAt.parts {w : World} {B : Nat} {v : Value} {n : Nd} {l : List Nd} (h : SlAt w B v (n :: l)) : ∃ b o cap, v = .slice (some ⟨b, o, none⟩) (n :: l).length cap ∧ (n :: l).length ≤ cap ∧ (cap ≤ 9223372036854775807 ∧ l.length < 4294967296) ∧ b < B ∧ RowAt w b o (n :: l) := by
  obtain ⟨ao, cap, rfl, h1, h2, h3⟩ := h
  obtain ⟨b, o, rfl, hb, hr⟩ := h3 (by simp)
  exact ⟨b, o, cap, rfl, h1, h2, hb, hr⟩
theorem kept_more {w w' : World} {base wb mb : Nat} (h : Kept w w' base [wb]) : Kept w w' base [wb, mb] := ⟨h.os, h.tape, h.output, h.size, fun b hb hn => h.block b hb (by simp at hn; simp [hn.1])⟩
theorem kids_cut {go : List Nd → Option (List Nd)} {m : Nat} {ls : List ByteArray} {l r : List Nd} (h : kidsBy go (m + 1) ls l = some r) : ∃ c l' r1, l = c :: l' ∧ go l' = some r1 ∧ kidsBy go m (ls ++ [c.name]) r1 = some r := by
  cases l with
  | nil => cases h
  | cons c l' =>
    rw [kidsBy] at h
    split at h
    · split at h
      · cases h
      · rename_i r1 hr1
        exact ⟨c, l', r1, rfl, hr1, h⟩
    · cases h
structure TalkAt (w0 w : World) (B wb mb base nf0 : Nat) (go : List Nd → Wv → Int × List Nd × Wv) (ka : List Nd → Option (List Nd)) (s : Int) (l0 r : List Nd) (fin : List Nd × Wv) (m : Nat) (rv : Value) (lk : List Nd) (Wk : Wv) (sv ev : Value) (nf : Nat) : Prop where
  sl : SlAt w B rv lk
  sh : Short lk
  ah : ∃ ls, kidsBy ka m ls lk = some r
  we : WeAt w wb mb base sv ev nf Wk
  same : wvKids go s m lk Wk = fin
  fit : Fits lk Wk nf
  nf : nf + lk.length ≤ nf0 + l0.length
  kept : Kept w0 w base [wb, mb]
set_option maxRecDepth 100000 in
set_option maxHeartbeats 4000000 in
theorem add_talk (f : Nat) (many : Int) (hf : 0 < many → AddCalls f) (st : List Nd) (op : Int) (name peer : ByteArray) (sort : Int) (l1 r : List Nd) (w : World) (B wb mb base nf b o cap : Nat) (sv ev : Value) (W : Wv) (hop1 : op ≠ 1) (hop2 : op ≠ 2) (hmany : 0 ≤ many ∧ many ≤ 4) (hsh : Short (⟨op, name, peer, many, sort⟩ :: l1)) (ha : kidsBy (ahead (talkS true) f st) many.toNat [] l1 = some r)
    (hbB : b < B) (hB : B ≤ base ∧ B ≤ wb ∧ B ≤ mb) (hc1 : (⟨op, name, peer, many, sort⟩ :: l1 : List Nd).length ≤ cap) (hc2 : cap ≤ 9223372036854775807 ∧ l1.length < 4294967296) (hrow : RowAt w b o (⟨op, name, peer, many, sort⟩ :: l1)) (h : WeAt w wb mb base sv ev nf W) (hfit : Fits (⟨op, name, peer, many, sort⟩ :: l1) W nf) :
    Calls Tryz.prog 204 #[.pointer (some ⟨wb, 0, none⟩), .slice (some ⟨b, o, none⟩) (⟨op, name, peer, many, sort⟩ :: l1 : List Nd).length cap] w fun e w' => Added w w' B wb mb base nf e (⟨op, name, peer, many, sort⟩ :: l1) r (W.sts.length : Int) (wvKids (wv f) (W.sts.length : Int) many.toNat l1 ⟨W.sts ++ [⟨kindW op, peer⟩], W.eds, W.fs⟩).2 := by
  obtain ⟨M, hM⟩ : ∃ M : Nat, many = (M : Int) := ⟨many.toNat, by omega⟩
  subst hM
  rw [Int.toNat_natCast] at ha ⊢
  have hM4 : M ≤ 4 := by omega
  have H := hide h
  have HB := hide hB
  have HAH := hide ha
  have HSH := hide hsh
  have HF := hide hf
  have HT : Hid (∀ ao, (cap ≠ 1 → ao = some ⟨b, o + 5, none⟩) → SlAt w B (.slice ao l1.length (cap - 1)) l1) := hide (fun ao ha => SlAt.tail hbB hrow hc1 hc2 ao ha)
  have HFIT := hide hfit
  have hf1 := hfit.sts
  simp only [List.length_cons] at hf1
  have HAS : Hid (∀ V, WeAt V wb mb base sv ev nf W → Calls Tryz.prog 209 #[.pointer (some ⟨wb, 0, none⟩), .agg #[.int .i64 op, .string name, .string peer, .int .i64 (M : Int), .int .i64 sort]] V fun e w' => ∃ sv', e = .returned (.int .i64 (W.sts.length : Int)) ∧ WeAt w' wb mb base sv' ev nf ⟨W.sts ++ [⟨kindW op, peer⟩], W.eds, W.fs⟩ ∧ Kept V w' base [wb] ∧ Apart V w' (vblocks sv ++ [wb])) := hide (fun V hV => add_state ⟨op, name, peer, M, sort⟩ V wb mb base nf sv ev W (hsh _ (List.mem_cons_self)) (by omega) hV)
  have HWA : Hid (WeAt (w.alloc (.cells #[.int .i64 op, .string name, .string peer, .int .i64 (M : Int), .int .i64 sort] 68)).drew wb mb base sv ev nf W) := hide (h.below (alloc1 w _).drew)
  have HKA : Hid (Kept w (w.alloc (.cells #[.int .i64 op, .string name, .string peer, .int .i64 (M : Int), .int .i64 sort] 68)).drew base [wb, mb]) := hide (below_kept (alloc1 w _).drew h.sz)
  have HNX : Hid (w.heap.size ∉ vblocks sv ++ [wb]) := hide (by
    intro hm
    rw [List.mem_append] at hm
    rcases hm with hm | hm
    · have := h.st.fresh.hi _ hm; omega
    · have := h.box.lt; simp at hm; omega)
  have HNB : Hid (wb ≠ w.heap.size ∧ base ≤ w.heap.size) := hide (by have := h.box.lt; have := h.sz; omega)
  simp only [List.length_cons] at hc1
  obtain ⟨⟨c0, c1, c2, c3, c4⟩, -⟩ := hrow
  dsimp only at c0 c1 c2 c3 c4
  have hbw : b < w.heap.size := World.block_lt_of_cell? w _ c0
  have hz : ((l1.length : Int) + 1 == 0) = false := beq_eq_false_iff_ne.2 (by omega)
  have e1 : (op == 1) = false := by simpa using hop1
  have e2 : (op == 2) = false := by simpa using hop2
  clear h hB hf ha hsh hfit hf1 hop1 hop2 hmany
  by_cases hcap : cap = 1
  · subst hcap
    obtain rfl : l1 = [] := List.length_eq_zero_iff.1 (by omega)
    obtain rfl : M = 0 := by
      cases M with
      | zero => rfl
      | succ m => have := HAH.out; cases this
    have HRR : Hid (r = []) := hide (by have := HAH.out; rw [kidsBy] at this; injection this with this; exact this.symm)
    go_enter Tryz.func204, Tryz.ntmps204
    go_wp2_with fail
    go_region
    go_wp2_with (go_at_call 209; refine (HAS.out _ HWA.out).mono ?_; rintro e w2 ⟨sv2, rfl, hw2, hk2, ha2⟩; have HW2 := hide hw2; have HK2 := hide (HKA.out.trans (kept_more (mb := mb) hk2)); have n3 : w2.cell? ⟨w.heap.size, 3, none⟩ = some (.int .i64 ((0 : Nat) : Int)) := ha2.cell' (by simp) HNX.out; clear hw2 hk2 ha2)
    go_loopw [7, 52] (fun rv i wr => rv = .slice (some ⟨b, o, none⟩) 0 0 ∧ i = .int .i64 0 ∧ wr = w2) (fun _ _ _ => 0)
    case atStart => exact ⟨rfl, rfl, rfl⟩
    case round =>
      obtain ⟨rfl, rfl, rfl⟩ := hrel
      go_wp2_with fail
      go_ret2
      refine ⟨_, sv2, ev, nf, rfl, ?_, by rw [wvKids]; exact HW2.out, by rw [HRR.out]; simp, HK2.out⟩
      rw [HRR.out]
      exact HK2.out.sl HB.out.1 (by intro x hx; simp at hx; rcases hx with rfl | rfl; exact HB.out.2.1; exact HB.out.2.2) (HT.out _ (fun h => absurd rfl h))
  · have HSL := hide (HT.out _ (fun _ => rfl))
    go_enter Tryz.func204, Tryz.ntmps204
    go_wp2_with fail
    go_region
    go_wp2_with (go_at_call 209; refine (HAS.out _ HWA.out).mono ?_; rintro e w2 ⟨sv2, rfl, hw2, hk2, ha2⟩; have HW2 := hide hw2; have HK2 := hide (HKA.out.trans (kept_more hk2)); have n3 : w2.cell? ⟨w.heap.size, 3, none⟩ = some (.int .i64 (M : Int)) := ha2.cell' (by simp) HNX.out; clear hw2 hk2 ha2)
    go_loopw [7, 52] (fun rv i wr => ∃ (k : Nat) (lk : List Nd) (Wk : Wv) (svk evk : Value) (nfk : Nat), k ≤ M ∧ i = .int .i64 k ∧ TalkAt w wr B wb mb base nf (wv f) (ahead (talkS true) f st) (W.sts.length : Int) (⟨op, name, peer, (M : Int), sort⟩ :: l1) r (wvKids (wv f) (W.sts.length : Int) M l1 ⟨W.sts ++ [⟨kindW op, peer⟩], W.eds, W.fs⟩) (M - k) rv lk Wk svk evk nfk) (fun _ i _ => M - (intOf i).toNat)
    case atStart =>
      refine ⟨0, l1, _, sv2, ev, nf, Nat.zero_le _, rfl, ⟨?_, fun n hn => HSH.out n (List.mem_cons_of_mem _ hn), ⟨[], HAH.out⟩, HW2.out, rfl, ?_, by simp only [List.length_cons]; omega, HK2.out⟩⟩
      · exact HK2.out.sl HB.out.1 (by intro x hx; simp at hx; rcases hx with rfl | rfl; exact HB.out.2.1; exact HB.out.2.2) HSL.out
      · have := HFIT.out
        exact ⟨by have := this.sts; simp only [List.length_cons, List.length_append, List.length_nil] at *; omega, by have := this.eds; simp only [List.length_cons] at *; omega, by have := this.nfs; simp only [List.length_cons] at *; omega⟩
    case round =>
      obtain ⟨k, lk, Wk, svk, evk, nfk, hk, rfl, htk⟩ := hrel
      have HTK := hide htk
      clear htk
      by_cases hlt : k < M
      · obtain ⟨m', hm'⟩ : ∃ m', M - k = m' + 1 := ⟨M - k - 1, by omega⟩
        have HMK : Hid (M - (k + 1) = m') := hide (by omega)
        rw [hm'] at HTK
        obtain ⟨ls, hls⟩ := HTK.out.ah
        obtain ⟨c, l', r1, rfl, hka, hkb⟩ := kids_cut hls
        have HKA1 := hide hka
        have HKB1 := hide hkb
        obtain ⟨b2, o2, cap2, rfl, hl2, hc2', hb2, hr2⟩ := HTK.out.sl.parts
        have hne2 : l' ≠ [] := by rintro rfl; cases f <;> cases hka
        have hpos2 : 0 < l'.length := List.length_pos_iff.2 hne2
        simp only [List.length_cons] at hl2
        have hcap2 : cap2 ≠ 1 := by omega
        have HTL : Hid (SlAt wr B (.slice (some ⟨b2, o2 + 5, none⟩) l'.length (cap2 - 1)) l') := hide (SlAt.tail hb2 hr2 (by simp only [List.length_cons]; exact hl2) hc2' _ (fun _ => rfl))
        obtain ⟨q1, q2⟩ := len_ok f st l' r1 Wk hka
        have HQ1 := hide q1
        have HQ2 := hide q2
        have HRC := hide (Calls.mono (HF.out (by omega) st l' r1 _ wr B wb mb base nfk svk evk Wk hka (fun n hn => HTK.out.sh n (List.mem_cons_of_mem _ hn)) HTL.out HB.out.1 HB.out.2.1 HB.out.2.2 HTK.out.we ⟨by have := HTK.out.fit.sts; simp only [List.length_cons] at this; omega, by have := HTK.out.fit.eds; simp only [List.length_cons] at this; omega, by have := HTK.out.fit.nfs; simp only [List.length_cons] at this; omega⟩) (fun e w' hh => hh))
        obtain ⟨i3, hi3⟩ : ∃ i, (wv f l' Wk).1 = i := ⟨_, rfl⟩
        obtain ⟨W3, hW3⟩ : ∃ X, (wv f l' Wk).2.2 = X := ⟨_, rfl⟩
        rw [hi3, hW3] at HRC
        rw [hW3] at HQ2
        have HSM : Hid (wvKids (wv f) (W.sts.length : Int) (m' + 1) (c :: l') Wk = wvKids (wv f) (W.sts.length : Int) m' r1 ⟨W3.sts, W3.eds ++ [⟨(W.sts.length : Int), c.name, c.sort, i3⟩], W3.fs⟩) := hide (by rw [wvKids, q1, hi3, hW3])
        have hz2 : ((l'.length : Int) + 1 == 0) = false := beq_eq_false_iff_ne.2 (by omega)
        obtain ⟨cop, cname, cpeer, cmany, csort⟩ := c
        clear hls hka hkb hr2 q1 q2 hi3 hW3 hne2
        go_wp2_with (first
          | (go_at_call 204; refine HRC.out.mono ?_; rintro e w3 ⟨v3, sv3, ev3, nf3, rfl, h2, h3, h4, h5⟩; have H2 := hide h2; have H3 := hide h3; have H4 := hide h4; have H5 := hide h5; obtain ⟨ao3, cap3, rfl, -⟩ := h2; have HS3 := hide (h5.sl HB.out.1 (by intro x hx; simp at hx; rcases hx with rfl | rfl; exact HB.out.2.1; exact HB.out.2.2) HTK.out.sl); obtain ⟨b3, o3, cap4, hv3, -, -, -, hrow3⟩ := HS3.out.parts; injection hv3 with hv3 _ _; injection hv3 with hv3; injection hv3 with hv3a hv3b; subst hv3a; subst hv3b; obtain ⟨⟨d0, d1, d2, d3, d4⟩, -⟩ := hrow3; dsimp only at d0 d1 d2 d3 d4; clear h3 h4 h5)
          | (go_at_call 210; refine (add_edge ⟨cop, cname, cpeer, cmany, csort⟩ (W.sts.length : Int) i3 w3 wb mb base nf3 sv3 ev3 W3 (HTK.out.sh _ (List.mem_cons_self)) (by have := HQ2.out.eds; have := HTK.out.fit.eds; simp only [List.length_cons] at this; omega) H3.out).mono ?_; rintro e w4 ⟨ev4, rfl, hw4, hk4, -⟩; have HW4 := hide hw4; have HK4 := hide (kept_more (mb := mb) hk4); clear hw4 hk4))
        go_roundw
        case rel =>
          refine ⟨k + 1, r1, ⟨W3.sts, W3.eds ++ [⟨(W.sts.length : Int), cname, csort, i3⟩], W3.fs⟩, sv3, ev4, nf3, hlt, by go_num, ?_⟩
          rw [HMK.out]
          refine ⟨HK4.out.sl HB.out.1 (by intro x hx; simp at hx; rcases hx with rfl | rfl; exact HB.out.2.1; exact HB.out.2.2) H2.out, fun n hn => HTK.out.sh n (List.mem_cons_of_mem _ ((ahead_suffix _ _ _ _ _ HKA1.out).subset hn)), ⟨_, HKB1.out⟩, HW4.out, HSM.out.symm.trans HTK.out.same, ⟨?_, ?_, ?_⟩, ?_, (HTK.out.kept.trans H5.out).trans HK4.out⟩
          · have := HQ2.out.sts; have := HTK.out.fit.sts; simp only [List.length_cons] at this; dsimp only; omega
          · have := HQ2.out.eds; have := HTK.out.fit.eds; simp only [List.length_cons] at this; simp only [List.length_append, List.length_cons, List.length_nil]; omega
          · have := H4.out; have := HTK.out.fit.nfs; simp only [List.length_cons] at this; omega
          · have := H4.out; have := HTK.out.nf; simp only [List.length_cons] at *; omega
        case measure => simp [intOf]; omega
      · obtain rfl : k = M := by omega
        have hzz : k - k = 0 := Nat.sub_self k
        rw [hzz] at HTK
        obtain ⟨ls, hls⟩ := HTK.out.ah
        rw [kidsBy] at hls
        injection hls with hls
        subst hls
        have HSM := hide HTK.out.same
        rw [wvKids] at HSM
        obtain ⟨ao3, cap3, rfl, -⟩ := HTK.out.sl
        go_wp2_with fail
        go_ret2
        refine ⟨_, svk, evk, nfk, rfl, HTK.out.sl, ?_, HTK.out.nf, HTK.out.kept⟩
        rw [← HSM.out]
        exact HTK.out.we
theorem many_end {n : Nd} (h : endB n = true) : n.many = 0 := by
  simp only [endB, Bool.and_eq_true, beq_iff_eq] at h
  exact h.1.2
theorem many_talk {n : Nd} (h : talkS true n = true) : 1 ≤ n.many ∧ n.many ≤ 4 := by
  simp only [talkS, manyB, Bool.and_eq_true, decide_eq_true_eq] at h
  omega
theorem add_calls : ∀ f : Nat, AddCalls f := by
  intro f
  induction f with
  | zero =>
    intro st l r v w B wb mb base nf sv ev W ha hsh hsl hB1 hB2 hB3 hwe hfit
    cases l with
    | nil => cases ha
    | cons n l1 =>
      obtain ⟨b, o, cap, rfl, hc1, hc2, hb, hr⟩ := hsl.parts
      obtain ⟨op, name, peer, many, sort⟩ := n
      by_cases h1 : op = 1
      · subst h1
        rw [ahead_1 rfl] at ha
        split at ha
        · injection ha with ha
          subst ha
          exact add_var name peer many sort l1 w B wb mb base nf b o cap sv ev W (hsh _ (List.mem_cons_self)).1 hb ⟨hB1, hB2, hB3⟩ hc1 hc2 hr hwe
        · cases ha
      · by_cases h0 : op = 0
        · rw [ahead_0 h0] at ha
          split at ha
          · rename_i he
            injection ha with ha
            subst ha
            have hm : many = 0 := many_end he
            subst hm
            have := add_talk 0 0 (fun h => absurd h (by omega)) st op name peer sort l1 l1 w B wb mb base nf b o cap sv ev W h1 (by omega) ⟨by omega, by omega⟩ hsh rfl hb ⟨hB1, hB2, hB3⟩ hc1 hc2 hr hwe hfit
            have e1 : (op == 1) = false := by simpa using h1
            rw [wv]
            simp only [e1]
            exact this
          · cases ha
        · rw [ahead_t0 h0 h1] at ha; cases ha
  | succ f ih =>
    intro st l r v w B wb mb base nf sv ev W ha hsh hsl hB1 hB2 hB3 hwe hfit
    cases l with
    | nil => cases ha
    | cons n l1 =>
      obtain ⟨b, o, cap, rfl, hc1, hc2, hb, hr⟩ := hsl.parts
      obtain ⟨op, name, peer, many, sort⟩ := n
      by_cases h1 : op = 1
      · subst h1
        rw [ahead_1 rfl] at ha
        split at ha
        · injection ha with ha
          subst ha
          exact add_var name peer many sort l1 w B wb mb base nf b o cap sv ev W (hsh _ (List.mem_cons_self)).1 hb ⟨hB1, hB2, hB3⟩ hc1 hc2 hr hwe
        · cases ha
      · have e1 : (op == 1) = false := by simpa using h1
        by_cases h2 : op = 2
        · subst h2
          rw [ahead_2 rfl] at ha
          split at ha
          · exact add_rec f ih st name peer many sort l1 r w B wb mb base nf b o cap sv ev W hsh ha hb ⟨hB1, hB2, hB3⟩ hc1 hc2 hr hwe hfit
          · cases ha
        · have e2 : (op == 2) = false := by simpa using h2
          by_cases h0 : op = 0
          · rw [ahead_0 h0] at ha
            split at ha
            · rename_i he
              injection ha with ha
              subst ha
              have hm : many = 0 := many_end he
              subst hm
              have := add_talk f 0 (fun h => absurd h (by omega)) st op name peer sort l1 l1 w B wb mb base nf b o cap sv ev W h1 h2 ⟨by omega, by omega⟩ hsh rfl hb ⟨hB1, hB2, hB3⟩ hc1 hc2 hr hwe hfit
              rw [wv]
              simp only [e1, e2]
              exact this
            · cases ha
          · rw [ahead_t h0 h1 h2] at ha
            split at ha
            · rename_i ht
              have hm := many_talk ht
              dsimp only at hm ha
              have := add_talk f many (fun _ => ih) _ op name peer sort l1 r w B wb mb base nf b o cap sv ev W h1 h2 ⟨by omega, by omega⟩ hsh ha hb ⟨hB1, hB2, hB3⟩ hc1 hc2 hr hwe hfit
              rw [wv]
              simp only [e1, e2]
              exact this
            · cases ha
end Go.Proofs.YtaaeledleldllaaGreat
namespace Go.Proofs.YtaaeledleldllaaGreat
open Go.RowKit
attribute [local go_sem ↓] Go.wp_at_zero Go.wp_at_succ

def moT (ns : List Nd) : Mach := if 400 < ns.length then noMach else if rightB true ns then machP ns else noMach
def moC (ns : List Nd) : Int := if 400 < ns.length then 2 else if rightB true ns then 0 else 1
theorem part_ahead {ns : List Nd} (h : rightB true ns = true) : ahead (talkS true) 10 [] ns = some [] ∧ ns.length ≤ 40 := by
  rw [rightB] at h
  simp only [Bool.and_eq_true, decide_eq_true_eq, beq_iff_eq] at h
  refine ⟨?_, h.1⟩
  cases hr : ahead (talkS true) 10 [] ns with
  | none => rw [hr] at h; simp at h
  | some r => rw [hr] at h; simp at h; rw [h.2.1]
theorem ans_err {w w' : World} (C : Int) (hb : Below w.heap.size w w') : MrAns w w' (.returned (.agg #[.slice none 0 0, .slice none 0 0, .int .i64 0, .int .i64 C])) noMach C :=
  ⟨⟨_, _, rfl, RStateOwn.nil _ _, REdgeOwn.nil _ _, by simp [vblocks, cellBlocks]⟩, hb⟩
theorem Kept.below {w w' : World} {base B : Nat} {l : List Nat} (h : Kept w w' base l) (hB : B ≤ base) (hl : ∀ b ∈ l, B ≤ b) : Below B w w' :=
  ⟨h.os, h.tape, h.output, h.size, fun k hk => h.block k (by omega) (fun hm => absurd (hl k hm) (by omega))⟩
theorem Kept.box {w w' : World} {base b : Nat} {l : List Nat} {vs : List Value} (h : Kept w w' base l) (hb : b < base) (hn : b ∉ l) (hx : BoxL w b vs) : BoxL w' b vs :=
  ⟨fun i v hv => (World.cell?_of_block (a := ⟨b, i, none⟩) (h.block b hb hn)).trans (hx.cell i v hv), fun o => (World.frozen?_of_block (a := ⟨b, o, none⟩) (h.block b hb hn)).trans (hx.fz o), Nat.lt_of_lt_of_le hx.lt h.size⟩
theorem we_new (w : World) : WeAt ((w.alloc (.map #[] 0)).alloc (.cells #[.slice none 0 0, .slice none 0 0, .int .i64 0, .map (some w.heap.size)] 264)) (w.heap.size + 1) w.heap.size (w.heap.size + 2) (.slice none 0 0) (.slice none 0 0) 0 ⟨[], [], fun _ => 0⟩ := by
  refine ⟨?_, RStateOwn.nil _ _, REdgeOwn.nil _ _, ?_, by simp [vblocks, cellBlocks], ⟨by omega, by omega, by omega⟩, by simp⟩
  · have := BoxL.new (w.alloc (.map #[] 0)) [.slice none 0 0, .slice none 0 0, .int .i64 0, .map (some w.heap.size)] 264
    simpa using this
  · exact (fs_new w).keep (below_apart (malloc1 _ _)) (by simp)
theorem kept_low {w1 w3 : World} {o1 o2 : Obj} (h : Kept ((w1.alloc o1).alloc o2) w3 (w1.heap.size + 2) [w1.heap.size + 1, w1.heap.size]) : Kept w1 w3 w1.heap.size [] :=
  have hb : Below w1.heap.size w1 ((w1.alloc o1).alloc o2) := (malloc1 _ _).trans ((malloc1 _ _).mono (by simp))
  ⟨h.os, h.tape, h.output, by have := h.size; simp at this; omega, fun b hlt _ => (h.block b (by omega) (by simp; omega)).trans (hb.block b hlt)⟩
theorem mo_end {w w1 w3 w4 : World} {ps pe : Option Addr} {cs ce nf : Nat} {Z : Wv} {es : List REdge} {i : Int} (hb1 : Below w.heap.size w w1) (hz1 : w.heap.size < w1.heap.size) (h3 : WeAt w3 (w1.heap.size + 1) w1.heap.size (w1.heap.size + 2) (.slice ps Z.sts.length cs) (.slice pe Z.eds.length ce) nf Z) (hk3 : Kept w1 w3 w1.heap.size [])
    (ha4 : Apart (w3.setCell ⟨w1.heap.size + 1, 2, none⟩ (.int .i64 i)) w4 (vblocks (.slice pe Z.eds.length ce))) (ho4 : REdgeOwn w4 (w1.heap.size + 2) (.slice pe Z.eds.length ce) es) (y0 y1 y2 y3 : Value) :
    MrAns w ((((w4.setCell ⟨w.heap.size, 0, none⟩ y0).setCell ⟨w.heap.size, 1, none⟩ y1).setCell ⟨w.heap.size, 2, none⟩ y2).setCell ⟨w.heap.size, 3, none⟩ y3) (.returned (.agg #[.slice ps Z.sts.length cs, .slice pe Z.eds.length ce, .int .i64 i, .int .i64 0])) ⟨Z.sts, es, i⟩ 0 := by
  have hS := setCell_apart w3 (w1.heap.size + 1) 2 (.int .i64 i)
  have hA := hS.trans ha4
  have lo := h3.ed.fresh.lo
  have h4 := ap4 w4 w.heap.size y0 y1 y2 y3
  have hB4 : Below w.heap.size w w4 := by
    refine (hb1.trans (hk3.below hb1.size (by simp))).trans (hA.below (Nat.le_trans hb1.size hk3.size) (fun b hb => ?_))
    rw [List.mem_append] at hb
    rcases hb with hb | hb
    · simp at hb; omega
    · have := lo b hb; omega
  refine ⟨⟨_, _, rfl, ?_, ?_, h3.dis⟩, set4 hB4 y0 y1 y2 y3⟩
  · have hs := h3.st
    refine owns_down (base := w1.heap.size + 2) ((hs.keep hA (fun b hb hm => ?_)).keep h4 (fun b hb hm => by have := hs.fresh.lo b hb; simp at hm; omega)) (by omega)
    rw [List.mem_append] at hm
    rcases hm with hm | hm
    · have := hs.fresh.lo b hb; simp at hm; omega
    · exact h3.dis b hb hm
  · exact owns_down (ho4.keep h4 (fun b hb hm => by have := ho4.fresh.lo b hb; simp at hm; omega)) (by omega)
set_option maxRecDepth 100000 in
set_option maxHeartbeats 2000000 in
theorem i_machineOf (ns : List Nd) (v : Value) (w : World) (fit : ∀ n ∈ ns, n.fit) (hv : SlAt w w.heap.size v ns) :
    Calls Tryz.prog 183 #[v] w fun e w' => MrAns w w' e (moT ns) (moC ns) := by
  have HV := hide hv
  have HFT := hide fit
  have hlm := hv.lenm
  obtain ⟨ao, cap, rfl, hc, hm, hr⟩ := hv
  have HO : Hid (BoxL (w.alloc outM) w.heap.size [.slice none 0 0, .slice none 0 0, .int .i64 0, .int .i64 0]) := hide (BoxL.new w [.slice none 0 0, .slice none 0 0, .int .i64 0, .int .i64 0] 241)
  clear hr fit
  by_cases h4 : 400 < ns.length
  · have HT : Hid (moT ns = noMach ∧ moC ns = 2) := hide ⟨if_pos h4, if_pos h4⟩
    go_enter Tryz.func183, Tryz.ntmps183
    go_wp2_with fail
    refine bodyPost_ret (v := .agg #[.slice none 0 0, .slice none 0 0, .int .i64 0, .int .i64 2]) (by simp [results, Tryz.results183, go_sem]) rfl ?_
    rw [HT.out.1, HT.out.2]
    exact ans_err 2 ((Below.refl _ _).alloc (Nat.le_refl _) _)
  · obtain ⟨q, hq⟩ : ∃ q, rightB true ns = q := ⟨_, rfl⟩
    have HQ := hide hq
    have HPR : Hid (∀ W, Below w.heap.size w W → Calls Tryz.prog 203 #[.slice ao ns.length cap] W fun e w' => e = .returned (.bool q) ∧ Below W.heap.size W w') := hide (fun W hb => by have := part_right ns (.slice ao ns.length cap) W HFT.out ((HV.out.carry hb).up hb.size); rw [hq] at this; exact this)
    have HT : Hid (moT ns = (if q then machP ns else noMach) ∧ moC ns = (if q then 0 else 1)) := hide (by unfold moT moC; rw [if_neg h4, if_neg h4, hq]; exact ⟨rfl, rfl⟩)
    clear hq
    cases q
    · go_enter Tryz.func183, Tryz.ntmps183
      go_wp2_with (go_at_call 203; refine (HPR.out _ (malloc1 w _)).mono ?_; rintro e w1 ⟨rfl, hb1⟩; have HB1 : Hid (Below w.heap.size w w1) := hide ((malloc1 w _).trans (hb1.mono (by simp))); have HO1 := hide (HO.out.keep (below_apart hb1) (by simp)); have b0 := HO1.out.cell 0 _ rfl; have b1 := HO1.out.cell 1 _ rfl; have b2 := HO1.out.cell 2 _ rfl; have b3 := HO1.out.cell 3 _ rfl; have bz := HO1.out.fz; clear hb1)
      refine bodyPost_ret (v := .agg #[.slice none 0 0, .slice none 0 0, .int .i64 0, .int .i64 1]) (by simp [results, Tryz.results183, go_sem, b0, b1, b2, b3]) rfl ?_
      rw [HT.out.1, HT.out.2]
      exact ans_err 1 (set4 HB1.out _ _ _ _)
    · obtain ⟨hah, h40⟩ := part_ahead HQ.out
      have HAH := hide hah
      have HONE := hide (fun es hp hu => mach_one (es := es) hah hp hu)
      have HADD : Hid (∀ W1 : World, Below w.heap.size w W1 → Calls Tryz.prog 204 #[.pointer (some ⟨W1.heap.size + 1, 0, none⟩), .slice ao ns.length cap] ((W1.alloc (.map #[] 0)).alloc (.cells #[.slice none 0 0, .slice none 0 0, .int .i64 0, .map (some W1.heap.size)] 264)) fun e w' => Added ((W1.alloc (.map #[] 0)).alloc (.cells #[.slice none 0 0, .slice none 0 0, .int .i64 0, .map (some W1.heap.size)] 264)) w' w.heap.size (W1.heap.size + 1) W1.heap.size (W1.heap.size + 2) 0 e ns [] (wvO ns).1 (wvO ns).2.2) := hide (fun W1 hb => add_calls 10 [] ns [] _ _ w.heap.size (W1.heap.size + 1) W1.heap.size (W1.heap.size + 2) 0 _ _ _ hah (fun n hn => HFT.out n hn) ((HV.out.carry hb).carry (((malloc1 _ _).trans ((malloc1 _ _).mono (by simp))).mono hb.size)) (by have := hb.size; omega) (by have := hb.size; omega) hb.size (we_new W1) ⟨by simp; omega, by simp; omega, by omega⟩)
      obtain ⟨i, hi⟩ : ∃ i, (wvO ns).1 = i := ⟨_, rfl⟩
      obtain ⟨Z, hZ⟩ : ∃ Z, (wvO ns).2.2 = Z := ⟨_, rfl⟩
      have HZL : Hid (Z.eds.length ≤ 1000) := hide (by have := (len_ok 10 [] ns [] ⟨[], [], fun _ => 0⟩ hah).2.eds; rw [← hZ]; unfold wvO; simp at this; omega)
      rw [hi, hZ] at HADD HONE
      have hmk : ∀ W : World, (Instr.makeMap 262 none).run Tryz.prog W = .ok (.map (some W.heap.size)) (W.alloc (.map #[] 0)) := fun W => rfl
      clear hah hi hZ
      go_enter Tryz.func183, Tryz.ntmps183
      go_wp2_with (first
        | (go_at_call 203; refine (HPR.out _ (malloc1 w _)).mono ?_; rintro e w1 ⟨rfl, hb1⟩; have HB1 : Hid (Below w.heap.size w w1) := hide ((malloc1 w _).trans (hb1.mono (by simp))); have HO1 := hide (HO.out.keep (below_apart hb1) (by simp)); have HZ1 : Hid (w.heap.size < w1.heap.size) := hide (by have := hb1.size; simp at this; omega); clear hb1)
        | (go_at_call 204; refine (HADD.out w1 HB1.out).mono ?_; rintro e w3 ⟨v3, sv, ev, nf3, rfl, -, hw3, -, hk3⟩; have HW3 := hide hw3; have HK3 : Hid (Kept w1 w3 (w1.heap.size) []) := hide (kept_low hk3); obtain ⟨ps, cs, rfl⟩ := owns_shape hw3.st; obtain ⟨pe, ce, rfl⟩ := owns_shape hw3.ed; have x0 := hw3.box.cell 0 _ rfl; have x1 := hw3.box.cell 1 _ rfl; have x2 := hw3.box.cell 2 _ rfl; have xz := hw3.box.fz; clear hw3 hk3)
        | (go_at_call 205; refine (sort_edges Z.eds (w1.heap.size + 2) (.slice pe Z.eds.length ce) (w3.setCell ⟨w1.heap.size + 1, 2, none⟩ (.int .i64 i)) (HW3.out.ed.keep (setCell_apart w3 (w1.heap.size + 1) 2 (.int .i64 i)) (fun b hb hm => by have := HW3.out.ed.fresh.lo b hb; simp at hm; omega)) HZL.out).mono ?_; rintro e w4 ⟨rfl, es, hp, hu, ho4, ha4⟩; have HP := hide hp; have HU := hide hu; have HO4 := hide ho4; have HA4 := hide ha4; have HXB := hide (((HW3.out.box.set 2 (by simp) (.int .i64 i))).keep ha4 (fun hm => by have := HW3.out.ed.fresh.lo _ hm; omega)); have y0 := HXB.out.cell 0 _ rfl; have y1 := HXB.out.cell 1 _ rfl; have y2 := HXB.out.cell 2 _ rfl; have HRB := hide (((HK3.out.box HZ1.out (by simp) HO1.out).keep (setCell_apart w3 (w1.heap.size + 1) 2 (.int .i64 i)) (by have := HZ1.out; simp; omega)).keep ha4 (fun hm => by have := HW3.out.ed.fresh.lo _ hm; have := HZ1.out; omega)); have b0 := HRB.out.cell 0 _ rfl; have b1 := HRB.out.cell 1 _ rfl; have b2 := HRB.out.cell 2 _ rfl; have b3 := HRB.out.cell 3 _ rfl; have bz := HRB.out.fz; clear hp hu ho4 ha4))
      refine bodyPost_ret (v := .agg #[.slice ps Z.sts.length cs, .slice pe Z.eds.length ce, .int .i64 i, .int .i64 0]) (by simp [results, Tryz.results183, go_sem, b0, b1, b2, b3]) rfl ?_
      rw [HT.out.1, HT.out.2, if_pos trivial, if_pos trivial, (HONE.out es HP.out HU.out).2]
      exact mo_end HB1.out HZ1.out HW3.out HK3.out HA4.out HO4.out _ _ _ _
end Go.Proofs.YtaaeledleldllaaGreat
namespace Go.Proofs.YtaaeledleldllaaGreat
open Go.RowKit
attribute [local go_sem ↓] Go.wp_at_zero Go.wp_at_succ

theorem MkAt.drew {w : World} {xb B base : Nat} {v sv ev : Value} {z : Int} {nv fv : Value} {all : List Nd} {sts : List RState} {eds : List REdge} {ns : List ByteArray} {fis : List Int} (h : MkAt w xb B base v sv ev z nv fv all sts eds ns fis) : MkAt w.drew xb B base v sv ev z nv fv all sts eds ns fis := h.far ⟨(Apart.refl w).drew⟩
theorem strs1_one (x : ByteArray) : ∀ u ∈ ([.string x] : List Value), u.oneCell' = true := by intro u hu; simp at hu; subst hu; rfl
theorem num1_one (x : Int) : ∀ u ∈ ([.int .i64 x] : List Value), u.oneCell' = true := by intro u hu; simp at hu; subst hu; rfl
set_option maxRecDepth 100000 in
set_option maxHeartbeats 4000000 in
theorem make_rec (f : Nat) (hf : MakeCalls f) (st all r : List Nd) (pos : Nat) (w : World) (xb B base : Nat) (v sv ev : Value) (z : Int) (nv fv : Value) (sts : List RState) (eds : List REdge) (ns : List ByteArray) (fis : List Int) (name peer : ByteArray) (many sort : Int) (hpos : pos < all.length) (hx : all[pos] = ⟨2, name, peer, many, sort⟩)
    (ha : ahead (talkS true) f (⟨2, name, peer, many, sort⟩ :: st) (all.drop (pos + 1)) = some r) (hall : all.length ≤ 40) (hlen : fis.length = ns.length) (hns : ns.length + (f + 1) ≤ 100) (hcs : cntS all pos = sts.length) (hed : eds.length + (all.length - pos) ≤ 900) (h : MkAt w xb B base v sv ev z nv fv all sts eds ns fis) :
    Calls Tryz.prog 181 #[.pointer (some ⟨xb, 0, none⟩), .int .i64 (pos : Int)] w fun e w' => Made w w' xb B base v z (rows4 sv ev nv fv) all ns fis e (Go.Proofs.YtaaeledleldllaaGreat.sv f (ns ++ [name]) (fis ++ [firstOf (ns ++ [name]) (fis ++ [0]) sts.length (all.drop (pos + 1))]) (all.drop (pos + 1)) (sts, eds)) := by
  have H := hide h
  have c0 := h.box.cell 0 _ rfl
  have c4 := h.box.cell 4 _ rfl
  have cz := h.box.fz
  have hxw := h.box.lt
  obtain ⟨i0, hi, hz0, hz1, hz2⟩ := info_parts Tryz.infoStr
  have HI := hide (And.intro hi (And.intro hz0 (And.intro hz1 hz2)))
  obtain ⟨i1, hi1, hy0, hy1, hy2⟩ := info_parts Tryz.infoI64
  have HJ := hide (And.intro hi1 (And.intro hy0 (And.intro hy1 hy2)))
  obtain ⟨pn, cn, hpn⟩ := owns_shape h.nm
  obtain ⟨ao, cap, rfl, hc1, hc2, hr⟩ := h.sl
  obtain ⟨b, o, rfl, hb, hrow⟩ := hr (by rintro rfl; simp at hpos)
  have hnode := hrow.get pos hpos
  rw [hx] at hnode
  obtain ⟨d0, d1, d2, d3, d4⟩ := hnode
  dsimp only at d0 d1 d2 d3 d4
  subst hpn
  have hcs2 : cntS all (pos + 1) = sts.length := by rw [cntS_succ hpos, hx, ← hcs]; rfl
  have hpl : pos + 1 < all.length := by
    rcases Nat.lt_or_ge (pos + 1) all.length with h1 | h1
    · exact h1
    · rw [List.drop_eq_nil_of_le h1] at ha; cases f <;> cases ha
  have hch : ¬ (∀ n ∈ all.drop (pos + 1), n.op = 2) := ahead_chain _ _ _ _ ha
  obtain ⟨fst, hfst⟩ : ∃ x, firstOf (ns ++ [name]) (fis ++ [0]) sts.length (all.drop (pos + 1)) = x := ⟨_, rfl⟩
  rw [hfst]
  have HFIR : Hid (∀ (W : World) (sv2 ev2 nv2 fv2 : Value), MkAt W xb B base (.slice (some ⟨b, o, none⟩) all.length cap) sv2 ev2 z nv2 fv2 all sts eds (ns ++ [name]) (fis ++ [0]) → Calls Tryz.prog 180 #[.pointer (some ⟨xb, 0, none⟩), .int .i64 ((pos : Int) + 1)] W fun e w' => e = .returned (.int .i64 fst) ∧ Below W.heap.size W w') := hide (fun W sv2 ev2 nv2 fv2 hW => by
    have := first_calls all (ns ++ [name]) (fis ++ [0]) (by simp; omega) (by simp; omega) (by omega) _ (pos + 1) xb W.heap.size W rfl hch hW.firAt (Nat.le_refl _)
    rw [hcs2, hfst] at this
    rw [show (pos : Int) + 1 = ((pos + 1 : Nat) : Int) by omega]
    exact this)
  have HMK : Hid (∀ (W : World) (sv2 ev2 nv2 fv2 : Value), MkAt W xb B base (.slice (some ⟨b, o, none⟩) all.length cap) sv2 ev2 z nv2 fv2 all sts eds (ns ++ [name]) (fis ++ [fst]) → Calls Tryz.prog 181 #[.pointer (some ⟨xb, 0, none⟩), .int .i64 ((pos : Int) + 1)] W fun e w' => Made W w' xb B base (.slice (some ⟨b, o, none⟩) all.length cap) z (rows4 sv2 ev2 nv2 fv2) all (ns ++ [name]) (fis ++ [fst]) e (Go.Proofs.YtaaeledleldllaaGreat.sv f (ns ++ [name]) (fis ++ [fst]) (all.drop (pos + 1)) (sts, eds))) := hide (fun W sv2 ev2 nv2 fv2 hW => by
    have := hf _ all r (pos + 1) W xb B base _ sv2 ev2 z nv2 fv2 sts eds (ns ++ [name]) (fis ++ [fst]) ha hall hpl (by simp; omega) (by simp; omega) hcs2 (by omega) hW
    rw [show (pos : Int) + 1 = ((pos + 1 : Nat) : Int) by omega]
    exact this)
  obtain ⟨O, hO⟩ : ∃ O, Go.Proofs.YtaaeledleldllaaGreat.sv f (ns ++ [name]) (fis ++ [fst]) (all.drop (pos + 1)) (sts, eds) = O := ⟨_, rfl⟩
  rw [hO] at HMK ⊢
  have HLEN := hide hlen
  have HW1 : Hid (∀ ob : Obj, MkAt (w.alloc ob).drew xb B base (.slice (some ⟨b, o, none⟩) all.length cap) sv ev z (.slice pn ns.length cn) fv all sts eds ns fis) := hide (fun ob => (H.out.far ((Far.ofBelow (Below.refl _ _)).alloc ob)).drew)
  have HS := hide H.out.sz
  clear h hr hi hz0 hz1 hz2 hi1 hy0 hy1 hy2 hf hch ha hcs hcs2 hfst hO hx hrow hlen hed
  go_enter Tryz.func181, Tryz.ntmps181
  go_wp2_with fail
  go_region_law (refine stepM_at rfl (.tmp 47) (.tmp 50) 70 rfl base 9 i0 (.string ByteArray.empty) 1 16 Tryz.underlying70 HI.out.1 HI.out.2.1 HI.out.2.2.1 HI.out.2.2.2 rfl (by decide) (.slice pn ns.length cn) ns.length (strsV ns) (by simp [Act.eval]) (owns_below (HW1.out _).nm (malloc1 _ _)) ⟨w.heap.size + 1, 0, none⟩ 1 1 [.string name] (by simp [Act.eval]) rfl (fun j u hj => new_row1q _ _ _ _ (by simp) j u hj) (strs1_one _) (by unfold maxLen; omega) (by omega) (by have := HS.out; simp; omega) ?_; intro v4 w4 hown4 hgr4 hat4; have HM4 := hide (mk_pushN (HW1.out _) name _ hown4 hgr4 hat4); have HX4 := hide (mk4_N (w3 := (w.alloc (.cells #[.int .i64 2, .string name, .string peer, .int .i64 many, .int .i64 sort] 68)).drew) (xb := xb) (sv := sv) (ev := ev) (fv := fv) hown4 _ hgr4 hat4); have HB4 := hide ((HW1.out (.cells #[.int .i64 2, .string name, .string peer, .int .i64 many, .int .i64 sort] 68)).box.keep ((below_apart (malloc1 _ _)).trans (grownBy_apart hgr4)) (fun hm => by rw [List.nil_append] at hm; have := (owns_fresh H.out.nm).lo _ hm; have := H.out.low; omega)); have l4 := HB4.out.cell 4 _ rfl; have lz := HB4.out.fz; obtain ⟨p4, c4, rfl⟩ := owns_shape hown4; clear hown4 hgr4 hat4)
  all_goals
    obtain ⟨W5, hW5⟩ : ∃ W, W = w4.setCell ⟨xb, 4, none⟩ (.slice p4 (ns.length + 1) c4) := ⟨_, rfl⟩
    rw [← hW5]
    have HM5 := hide (show MkAt W5 xb B base (.slice (some ⟨b, o, none⟩) all.length cap) sv ev z (.slice p4 (ns.length + 1) c4) fv all sts eds (ns ++ [name]) fis by rw [hW5]; exact HM4.out.1)
    have HK5 := hide (show Mkept w W5 base xb by rw [hW5]; exact ((Far.ofBelow (malloc1 w _)).ap.drew.mkept H.out.sz (by simp)).trans HM4.out.2)
    have HX5 := hide (show Mk4 w W5 xb (rows4 sv ev (.slice pn ns.length cn) fv) (rows4 sv ev (.slice p4 (ns.length + 1) c4) fv) by rw [hW5]; exact (Mk4.far ⟨(Far.ofBelow (malloc1 w _)).ap.drew⟩).trans HX4.out)
    clear hW5 HM4 HB4 HX4 l4 lz
    have c5 := HM5.out.box.cell 5 _ rfl
    have z5 := HM5.out.box.fz
    have hx5 := HM5.out.box.lt
    have hl5 : fis.length ≤ ns.length := by have := HLEN.out; omega
    have hl6 : ns.length ≤ fis.length := by have := HLEN.out; omega
    obtain ⟨pf, cf, hpf⟩ := owns_shape HM5.out.fi
    subst hpf
    go_wp2_with (first
      | (go_at_call 181; refine (HMK.out _ _ _ _ _ HM9.out.1).mono ?_; rintro e w10 ⟨sv2, ev2, nv2, fv2, rfl, hm10, hk10, hx10⟩; obtain ⟨g10, c10, rfl, hc10, hd10⟩ := hm10.someN1; obtain ⟨g11, c11, rfl, hc11, hd11, -, -⟩ := hm10.someF1; have HM10 := hide hm10; have HK10 := hide hk10; have HX10 := hide hx10; have m4 := hm10.box.cell 4 _ rfl; have m5 := hm10.box.cell 5 _ rfl; have mz := hm10.box.fz; clear hm10 hk10 hx10)
      | (go_at_call 180; refine (HFIR.out _ _ _ _ _ HM6.out.1).mono ?_; rintro e w8 ⟨rfl, hb8⟩; have HM8 := hide (HM6.out.1.far (Far.ofBelow hb8)); have HK8 := hide (HM6.out.2.trans ((Far.ofBelow hb8).ap.mkept HM6.out.1.sz (by simp))); have e4 := HM8.out.box.cell 4 _ rfl; have e5 := HM8.out.box.cell 5 _ rfl; have ez := HM8.out.box.fz; obtain ⟨g6', c6', hv6', -, -, e6, ey⟩ := HM8.out.someF1; injection hv6' with hv6' _ _; injection hv6' with hv6'; injection hv6' with hv6'; subst hv6'; have HX8 := hide (Mk4.far (xb := xb) (R := rows4 sv ev (.slice p4 (ns.length + 1) c4) (.slice (some ⟨g6, 0, none⟩) (fis.length + 1) c6)) (Far.ofBelow hb8)); have HM9 := hide (mk_setF HM8.out fst); rw [HLEN.out] at e6; rw [show (⟨g6, fis.length, none⟩ : Addr) = ⟨g6, ns.length, none⟩ by rw [HLEN.out]] at HM9; clear hb8)
      | (at_builtin; refine wpList_append_own_at _ rfl (.tmp 58) (.tmp 59) 29 rfl base 2 i1 (.int .i64 0) 1 8 Tryz.underlying29 HJ.out.1 HJ.out.2.1 HJ.out.2.2.1 HJ.out.2.2.2 rfl (by decide) (.slice pf fis.length cf) fis.length (numsV fis) rfl (owns_below HM5.out.fi (malloc1 _ _)) ⟨W5.heap.size, 0, none⟩ 1 1 [.int .i64 0] rfl rfl (fun j u hj => new_row1q W5 _ _ _ rfl j u hj) (num1_one _) (by unfold maxLen; omega) (by omega) (by have := HM5.out.sz; simp; omega) ?_; intro v6 w6 hown6 hgr6 _ hat6; have HM6 := hide (mk_pushF HM5.out 0 _ hown6 hgr6 hat6); have HX6 := hide (mk4_F (xb := xb) (sv := sv) (ev := ev) (nv := .slice p4 (ns.length + 1) c4) hown6 _ hgr6 hat6); have HB6 := hide (HM5.out.box.keep ((below_apart (malloc1 _ _)).trans (grownBy_apart hgr6)) (fun hm => by rw [List.nil_append] at hm; have := (owns_fresh HM5.out.fi).lo _ hm; have := HM5.out.low; omega)); have l5 := HB6.out.cell 5 _ rfl; have l4 := HB6.out.cell 4 _ rfl; have lz := HB6.out.fz; obtain ⟨g6, c6, rfl, hc6, hm6, -, -⟩ := HM6.out.1.someF1; clear hown6 hgr6 hat6))
    go_ret
    have h1 := mk_popN HM10.out
    have h2 := mk_popF h1.1
    rw [HLEN.out] at h2
    refine ⟨sv2, ev2, _, _, rfl, h2.1, ((((HK5.out.trans HK8.out).trans HM9.out.2).trans HK10.out).trans h1.2).trans h2.2, ?_⟩
    refine (((((HX5.out.trans HX6.out).trans HX8.out).trans (Mk4.apart (setCell_apart w8 g6 ns.length (.int .i64 fst)) (fun b hb => ?_) (fun b hb => .inl hb))).trans HX10.out).trans (Mk4.apart (setCell_apart w10 xb 4 _) (fun b hb => .inl (by simpa using hb)) (fun b hb => .inl hb))).trans (Mk4.apart (setCell_apart _ xb 5 _) (fun b hb => .inl (by simpa using hb)) (fun b hb => .inl ?_))
    · simp at hb; subst hb; exact .inr (mem4.2 (.inr (.inr (.inr (by simp [vblocks, cellBlocks])))))
    · rw [mem4] at hb ⊢; simpa [vblocks, cellBlocks] using hb
end Go.Proofs.YtaaeledleldllaaGreat
