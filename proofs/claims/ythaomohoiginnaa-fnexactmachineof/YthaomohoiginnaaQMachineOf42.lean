/- The program's weave: an edge. -/
import Derived.Test.YthaomohoiginnaaQMachineOf40
import Derived.Deep.RegionLaw
import Derived.Test.YthaomohoiginnaaQMachineOf41
namespace Go.Proofs.Ythaomohoiginnaa
open Go.RowKit
attribute [local go_sem ↓] Go.wp_at_zero Go.wp_at_succ

set_option maxRecDepth 100000 in
set_option maxHeartbeats 4000000 in
theorem add_edge (n : Nd) (from_ to_ : Int) (w : World) (wb mb base nf : Nat) (sv ev : Value) (W : Wv) (hn : n.name.size ≤ 1048576 ∧ n.peer.size ≤ 1048576) (hl : W.eds.length ≤ 1000) (h : WeAt w wb mb base sv ev nf W) :
    Calls Try.prog 130 #[.pointer (some ⟨wb, 0, none⟩), .int .i64 from_, n.val, .int .i64 to_] w fun e w' => ∃ ev', e = .returned (.tuple #[]) ∧ WeAt w' wb mb base sv ev' nf ⟨W.sts, W.eds ++ [⟨from_, n.name, n.sort, to_⟩], W.fs⟩ ∧ Kept w w' base [wb] ∧ Apart w w' (vblocks ev ++ [wb]) := by
  have H := hide h
  have HN := hide hn
  obtain ⟨i0, hi, hz0, hz1, hz2⟩ := info_parts Try.infoREdge
  have HI := hide (And.intro hi (And.intro hz0 (And.intro hz1 hz2)))
  obtain ⟨ps, cs, rfl⟩ := owns_shape h.st
  obtain ⟨pe, ce, rfl⟩ := owns_shape h.ed
  have k0 := h.box.cell 1 _ rfl
  have hlt : wb < w.heap.size := h.box.lt
  have HF := hide (And.intro h.box.fz (And.intro h.low h.sz))
  obtain ⟨op, name, peer, many, sort⟩ := n
  clear h hn hi hz0 hz1 hz2
  unfold Nd.val
  go_enter Try.func130, Try.ntmps130
  go_wp2_with fail
  go_region_law (first
    | (go_simp; go_at_call 115; refine (clone_str name _ HN.out.1).mono ?_; rintro e w3 ⟨rfl, hb3⟩; have HB3 : Hid (Below w.heap.size w w3) := hide ((alloc1 w _).drew.trans (hb3.mono (by simp))); have HW3 := hide (H.out.below HB3.out); have f0 := HW3.out.box.cell 1 _ rfl; have f0a : ∀ o : Obj, (w3.alloc o).cell? ⟨wb, 1, none⟩ = some (.slice pe W.eds.length ce) := (fun o => (HW3.out.box.keep (below_apart (malloc1 w3 o)) (by simp)).cell 1 _ rfl); have g4 : w3.cell? ⟨w.heap.size, 4, none⟩ = some (.int .i64 sort) := (hb3.cell (p := ⟨w.heap.size, 4, none⟩) (by simp)).trans (by simp); clear hb3)
    | (refine stepM_at rfl (.tmp 13) (.tmp 22) 43 rfl base 100 i0 (.agg #[.int .i64 0, .string ByteArray.empty, .int .i64 0, .int .i64 0]) 4 40 Try.underlying43 HI.out.1 HI.out.2.1 HI.out.2.2.1 HI.out.2.2.2 rfl (by decide) (.slice pe W.eds.length ce) W.eds.length (W.eds.flatMap REdge.cells) (by simp [Act.eval]) (HW3.out.ed.below (malloc1 w3 (.cells #[.int .i64 from_, .string name, .int .i64 sort, .int .i64 to_] 100))) ⟨w3.heap.size, 0, none⟩ 1 1 (REdge.cells ⟨from_, name, sort, to_⟩) (by simp [Act.eval]) rfl (fun j u hj => new_row1 w3 _ _ j u hj) (REdge.cells_one _) (by unfold maxLen; omega) (by omega) (by have := HW3.out.sz; simp; omega) ?_; intro v4 w4 hown4 hgr4 hat4; have HM4 := hide (we_push2 HW3.out ⟨from_, name, sort, to_⟩ _ hown4 hgr4 hat4 HB3.out HF.out.2.2); have HB4 := hide (box_left HW3.out HW3.out.ed (Nat.le_refl _) hgr4); have l0 := HB4.out.cell 1 _ rfl; have lz := HB4.out.fz; obtain ⟨p4, c4, rfl⟩ := owns_shape hown4; clear hown4 hgr4 hat4))
  all_goals
    go_wp2_with fail
    go_end0
    exact ⟨_, rfl, HM4.out.1, HM4.out.2.1, HM4.out.2.2⟩
end Go.Proofs.Ythaomohoiginnaa
/- The program's weave: add, at a talk and at the end; add. -/
namespace Go.Proofs.Ythaomohoiginnaa
open Go.RowKit
attribute [local go_sem ↓] Go.wp_at_zero Go.wp_at_succ

theorem SlAt.parts {w : World} {B : Nat} {v : Value} {n : Nd} {l : List Nd} (h : SlAt w B v (n :: l)) : ∃ b o cap, v = .slice (some ⟨b, o, none⟩) (n :: l).length cap ∧ (n :: l).length ≤ cap ∧ cap ≤ 4294967296 ∧ b < B ∧ RowAt w b o (n :: l) := by
  obtain ⟨ao, cap, rfl, h1, h2, h3⟩ := h
  obtain ⟨b, o, rfl, hb, hr⟩ := h3 (by simp)
  exact ⟨b, o, cap, rfl, h1, h2, hb, hr⟩
theorem kept_more {w w' : World} {base wb mb : Nat} (h : Kept w w' base [wb]) : Kept w w' base [wb, mb] := ⟨h.os, h.tape, h.output, h.size, fun b hb hn => h.block b hb (by simp at hn; simp [hn.1])⟩
theorem kids_cut {go : List Nd → Option (List Nd)} {m : Nat} {ls : List ByteArray} {l r : List Nd} (h : kidsBy go (m + 1) ls l = some r) : ∃ c l' r1, l = c :: l' ∧ go l' = some r1 ∧ kidsBy go m (ls ++ [c.name]) r1 = some r := by
  cases l with
  | nil => cases h
  | cons c l' =>
    rw [kidsBy] at h
    split at h
    · split at h
      · cases h
      · rename_i r1 hr1
        exact ⟨c, l', r1, rfl, hr1, h⟩
    · cases h
/-- where the rounds of a talk stand -/
structure TalkAt (w0 w : World) (B wb mb base nf0 : Nat) (go : List Nd → Wv → Int × List Nd × Wv) (ka : List Nd → Option (List Nd)) (s : Int) (l0 r : List Nd) (fin : List Nd × Wv) (m : Nat) (rv : Value) (lk : List Nd) (Wk : Wv) (sv ev : Value) (nf : Nat) : Prop where
  sl : SlAt w B rv lk
  sh : Short lk
  ah : ∃ ls, kidsBy ka m ls lk = some r
  we : WeAt w wb mb base sv ev nf Wk
  same : wvKids go s m lk Wk = fin
  fit : Fits lk Wk nf
  nf : nf + lk.length ≤ nf0 + l0.length
  kept : Kept w0 w base [wb, mb]
set_option maxRecDepth 100000 in
set_option maxHeartbeats 4000000 in
theorem add_talk (f : Nat) (many : Int) (hf : 0 < many → AddCalls f) (st : List Nd) (op : Int) (name peer : ByteArray) (sort : Int) (l1 r : List Nd) (w : World) (B wb mb base nf b o cap : Nat) (sv ev : Value) (W : Wv) (hop1 : op ≠ 1) (hop2 : op ≠ 2) (hmany : 0 ≤ many ∧ many ≤ 4) (hsh : Short (⟨op, name, peer, many, sort⟩ :: l1)) (ha : kidsBy (ahead (talkS true) f st) many.toNat [] l1 = some r)
    (hbB : b < B) (hB : B ≤ base ∧ B ≤ wb ∧ B ≤ mb) (hc1 : (⟨op, name, peer, many, sort⟩ :: l1 : List Nd).length ≤ cap) (hc2 : cap ≤ 4294967296) (hrow : RowAt w b o (⟨op, name, peer, many, sort⟩ :: l1)) (h : WeAt w wb mb base sv ev nf W) (hfit : Fits (⟨op, name, peer, many, sort⟩ :: l1) W nf) :
    Calls Try.prog 83 #[.pointer (some ⟨wb, 0, none⟩), .slice (some ⟨b, o, none⟩) (⟨op, name, peer, many, sort⟩ :: l1 : List Nd).length cap] w fun e w' => Added w w' B wb mb base nf e (⟨op, name, peer, many, sort⟩ :: l1) r (W.sts.length : Int) (wvKids (wv f) (W.sts.length : Int) many.toNat l1 ⟨W.sts ++ [⟨kindW op, peer⟩], W.eds, W.fs⟩).2 := by
  obtain ⟨M, hM⟩ : ∃ M : Nat, many = (M : Int) := ⟨many.toNat, by omega⟩
  subst hM
  rw [Int.toNat_natCast] at ha ⊢
  have hM4 : M ≤ 4 := by omega
  have H := hide h
  have HB := hide hB
  have HAH := hide ha
  have HSH := hide hsh
  have HF := hide hf
  have HT : Hid (∀ ao, (cap ≠ 1 → ao = some ⟨b, o + 5, none⟩) → SlAt w B (.slice ao l1.length (cap - 1)) l1) := hide (fun ao ha => SlAt.tail hbB hrow hc1 hc2 ao ha)
  have HFIT := hide hfit
  have hf1 := hfit.sts
  simp only [List.length_cons] at hf1
  have HAS : Hid (∀ V, WeAt V wb mb base sv ev nf W → Calls Try.prog 129 #[.pointer (some ⟨wb, 0, none⟩), .agg #[.int .i64 op, .string name, .string peer, .int .i64 (M : Int), .int .i64 sort]] V fun e w' => ∃ sv', e = .returned (.int .i64 (W.sts.length : Int)) ∧ WeAt w' wb mb base sv' ev nf ⟨W.sts ++ [⟨kindW op, peer⟩], W.eds, W.fs⟩ ∧ Kept V w' base [wb] ∧ Apart V w' (vblocks sv ++ [wb])) := hide (fun V hV => add_state ⟨op, name, peer, M, sort⟩ V wb mb base nf sv ev W (hsh _ (List.mem_cons_self)) (by omega) hV)
  have HWA : Hid (WeAt (w.alloc (.cells #[.int .i64 op, .string name, .string peer, .int .i64 (M : Int), .int .i64 sort] 79)).drew wb mb base sv ev nf W) := hide (h.below (alloc1 w _).drew)
  have HKA : Hid (Kept w (w.alloc (.cells #[.int .i64 op, .string name, .string peer, .int .i64 (M : Int), .int .i64 sort] 79)).drew base [wb, mb]) := hide (below_kept (alloc1 w _).drew h.sz)
  have HNX : Hid (w.heap.size ∉ vblocks sv ++ [wb]) := hide (by
    intro hm
    rw [List.mem_append] at hm
    rcases hm with hm | hm
    · have := h.st.fresh.hi _ hm; omega
    · have := h.box.lt; simp at hm; omega)
  have HNB : Hid (wb ≠ w.heap.size ∧ base ≤ w.heap.size) := hide (by have := h.box.lt; have := h.sz; omega)
  simp only [List.length_cons] at hc1
  obtain ⟨⟨c0, c1, c2, c3, c4⟩, -⟩ := hrow
  dsimp only at c0 c1 c2 c3 c4
  have hbw : b < w.heap.size := World.block_lt_of_cell? w _ c0
  have hz : ((l1.length : Int) + 1 == 0) = false := beq_eq_false_iff_ne.2 (by omega)
  have e1 : (op == 1) = false := by simpa using hop1
  have e2 : (op == 2) = false := by simpa using hop2
  clear h hB hf ha hsh hfit hf1 hop1 hop2 hmany
  by_cases hcap : cap = 1
  · subst hcap
    obtain rfl : l1 = [] := List.length_eq_zero_iff.1 (by omega)
    obtain rfl : M = 0 := by
      cases M with
      | zero => rfl
      | succ m => have := HAH.out; cases this
    have HRR : Hid (r = []) := hide (by have := HAH.out; rw [kidsBy] at this; injection this with this; exact this.symm)
    go_enter Try.func83, Try.ntmps83
    go_wp2_with fail
    go_region
    go_wp2_with (go_at_call 129; refine (HAS.out _ HWA.out).mono ?_; rintro e w2 ⟨sv2, rfl, hw2, hk2, ha2⟩; have HW2 := hide hw2; have HK2 := hide (HKA.out.trans (kept_more (mb := mb) hk2)); have n3 : w2.cell? ⟨w.heap.size, 3, none⟩ = some (.int .i64 ((0 : Nat) : Int)) := ha2.cell' (by simp) HNX.out; clear hw2 hk2 ha2)
    go_loopw [7, 52] (fun rv i wr => rv = .slice (some ⟨b, o, none⟩) 0 0 ∧ i = .int .i64 0 ∧ wr = w2) (fun _ _ _ => 0)
    case atStart => exact ⟨rfl, rfl, rfl⟩
    case round =>
      obtain ⟨rfl, rfl, rfl⟩ := hrel
      go_wp2_with fail
      go_ret2
      refine ⟨_, sv2, ev, nf, rfl, ?_, by rw [wvKids]; exact HW2.out, by rw [HRR.out]; simp, HK2.out⟩
      rw [HRR.out]
      exact HK2.out.sl HB.out.1 (by intro x hx; simp at hx; rcases hx with rfl | rfl; exact HB.out.2.1; exact HB.out.2.2) (HT.out _ (fun h => absurd rfl h))
  · have HSL := hide (HT.out _ (fun _ => rfl))
    go_enter Try.func83, Try.ntmps83
    go_wp2_with fail
    go_region
    go_wp2_with (go_at_call 129; refine (HAS.out _ HWA.out).mono ?_; rintro e w2 ⟨sv2, rfl, hw2, hk2, ha2⟩; have HW2 := hide hw2; have HK2 := hide (HKA.out.trans (kept_more hk2)); have n3 : w2.cell? ⟨w.heap.size, 3, none⟩ = some (.int .i64 (M : Int)) := ha2.cell' (by simp) HNX.out; clear hw2 hk2 ha2)
    go_loopw [7, 52] (fun rv i wr => ∃ (k : Nat) (lk : List Nd) (Wk : Wv) (svk evk : Value) (nfk : Nat), k ≤ M ∧ i = .int .i64 k ∧ TalkAt w wr B wb mb base nf (wv f) (ahead (talkS true) f st) (W.sts.length : Int) (⟨op, name, peer, (M : Int), sort⟩ :: l1) r (wvKids (wv f) (W.sts.length : Int) M l1 ⟨W.sts ++ [⟨kindW op, peer⟩], W.eds, W.fs⟩) (M - k) rv lk Wk svk evk nfk) (fun _ i _ => M - (intOf i).toNat)
    case atStart =>
      refine ⟨0, l1, _, sv2, ev, nf, Nat.zero_le _, rfl, ⟨?_, fun n hn => HSH.out n (List.mem_cons_of_mem _ hn), ⟨[], HAH.out⟩, HW2.out, rfl, ?_, by simp only [List.length_cons]; omega, HK2.out⟩⟩
      · exact HK2.out.sl HB.out.1 (by intro x hx; simp at hx; rcases hx with rfl | rfl; exact HB.out.2.1; exact HB.out.2.2) HSL.out
      · have := HFIT.out
        exact ⟨by have := this.sts; simp only [List.length_cons, List.length_append, List.length_nil] at *; omega, by have := this.eds; simp only [List.length_cons] at *; omega, by have := this.nfs; simp only [List.length_cons] at *; omega⟩
    case round =>
      obtain ⟨k, lk, Wk, svk, evk, nfk, hk, rfl, htk⟩ := hrel
      have HTK := hide htk
      clear htk
      by_cases hlt : k < M
      · obtain ⟨m', hm'⟩ : ∃ m', M - k = m' + 1 := ⟨M - k - 1, by omega⟩
        have HMK : Hid (M - (k + 1) = m') := hide (by omega)
        rw [hm'] at HTK
        obtain ⟨ls, hls⟩ := HTK.out.ah
        obtain ⟨c, l', r1, rfl, hka, hkb⟩ := kids_cut hls
        have HKA1 := hide hka
        have HKB1 := hide hkb
        obtain ⟨b2, o2, cap2, rfl, hl2, hc2', hb2, hr2⟩ := HTK.out.sl.parts
        have hne2 : l' ≠ [] := by rintro rfl; cases f <;> cases hka
        have hpos2 : 0 < l'.length := List.length_pos_iff.2 hne2
        simp only [List.length_cons] at hl2
        have hcap2 : cap2 ≠ 1 := by omega
        have HTL : Hid (SlAt wr B (.slice (some ⟨b2, o2 + 5, none⟩) l'.length (cap2 - 1)) l') := hide (SlAt.tail hb2 hr2 (by simp only [List.length_cons]; exact hl2) hc2' _ (fun _ => rfl))
        obtain ⟨q1, q2⟩ := len_ok f st l' r1 Wk hka
        have HQ1 := hide q1
        have HQ2 := hide q2
        have HRC := hide (Calls.mono (HF.out (by omega) st l' r1 _ wr B wb mb base nfk svk evk Wk hka (fun n hn => HTK.out.sh n (List.mem_cons_of_mem _ hn)) HTL.out HB.out.1 HB.out.2.1 HB.out.2.2 HTK.out.we ⟨by have := HTK.out.fit.sts; simp only [List.length_cons] at this; omega, by have := HTK.out.fit.eds; simp only [List.length_cons] at this; omega, by have := HTK.out.fit.nfs; simp only [List.length_cons] at this; omega⟩) (fun e w' hh => hh))
        obtain ⟨i3, hi3⟩ : ∃ i, (wv f l' Wk).1 = i := ⟨_, rfl⟩
        obtain ⟨W3, hW3⟩ : ∃ X, (wv f l' Wk).2.2 = X := ⟨_, rfl⟩
        rw [hi3, hW3] at HRC
        rw [hW3] at HQ2
        have HSM : Hid (wvKids (wv f) (W.sts.length : Int) (m' + 1) (c :: l') Wk = wvKids (wv f) (W.sts.length : Int) m' r1 ⟨W3.sts, W3.eds ++ [⟨(W.sts.length : Int), c.name, c.sort, i3⟩], W3.fs⟩) := hide (by rw [wvKids, q1, hi3, hW3])
        have hz2 : ((l'.length : Int) + 1 == 0) = false := beq_eq_false_iff_ne.2 (by omega)
        obtain ⟨cop, cname, cpeer, cmany, csort⟩ := c
        clear hls hka hkb hr2 q1 q2 hi3 hW3 hne2
        go_wp2_with (first
          | (go_at_call 83; refine HRC.out.mono ?_; rintro e w3 ⟨v3, sv3, ev3, nf3, rfl, h2, h3, h4, h5⟩; have H2 := hide h2; have H3 := hide h3; have H4 := hide h4; have H5 := hide h5; obtain ⟨ao3, cap3, rfl, -⟩ := h2; have HS3 := hide (h5.sl HB.out.1 (by intro x hx; simp at hx; rcases hx with rfl | rfl; exact HB.out.2.1; exact HB.out.2.2) HTK.out.sl); obtain ⟨b3, o3, cap4, hv3, -, -, -, hrow3⟩ := HS3.out.parts; injection hv3 with hv3 _ _; injection hv3 with hv3; injection hv3 with hv3a hv3b; subst hv3a; subst hv3b; obtain ⟨⟨d0, d1, d2, d3, d4⟩, -⟩ := hrow3; dsimp only at d0 d1 d2 d3 d4; clear h3 h4 h5)
          | (go_at_call 130; refine (add_edge ⟨cop, cname, cpeer, cmany, csort⟩ (W.sts.length : Int) i3 w3 wb mb base nf3 sv3 ev3 W3 (HTK.out.sh _ (List.mem_cons_self)) (by have := HQ2.out.eds; have := HTK.out.fit.eds; simp only [List.length_cons] at this; omega) H3.out).mono ?_; rintro e w4 ⟨ev4, rfl, hw4, hk4, -⟩; have HW4 := hide hw4; have HK4 := hide (kept_more (mb := mb) hk4); clear hw4 hk4))
        go_roundw
        case rel =>
          refine ⟨k + 1, r1, ⟨W3.sts, W3.eds ++ [⟨(W.sts.length : Int), cname, csort, i3⟩], W3.fs⟩, sv3, ev4, nf3, hlt, by go_num, ?_⟩
          rw [HMK.out]
          refine ⟨HK4.out.sl HB.out.1 (by intro x hx; simp at hx; rcases hx with rfl | rfl; exact HB.out.2.1; exact HB.out.2.2) H2.out, fun n hn => HTK.out.sh n (List.mem_cons_of_mem _ ((ahead_suffix _ _ _ _ _ HKA1.out).subset hn)), ⟨_, HKB1.out⟩, HW4.out, HSM.out.symm.trans HTK.out.same, ⟨?_, ?_, ?_⟩, ?_, (HTK.out.kept.trans H5.out).trans HK4.out⟩
          · have := HQ2.out.sts; have := HTK.out.fit.sts; simp only [List.length_cons] at this; dsimp only; omega
          · have := HQ2.out.eds; have := HTK.out.fit.eds; simp only [List.length_cons] at this; simp only [List.length_append, List.length_cons, List.length_nil]; omega
          · have := H4.out; have := HTK.out.fit.nfs; simp only [List.length_cons] at this; omega
          · have := H4.out; have := HTK.out.nf; simp only [List.length_cons] at *; omega
        case measure => simp [intOf]; omega
      · obtain rfl : k = M := by omega
        have hzz : k - k = 0 := Nat.sub_self k
        rw [hzz] at HTK
        obtain ⟨ls, hls⟩ := HTK.out.ah
        rw [kidsBy] at hls
        injection hls with hls
        subst hls
        have HSM := hide HTK.out.same
        rw [wvKids] at HSM
        obtain ⟨ao3, cap3, rfl, -⟩ := HTK.out.sl
        go_wp2_with fail
        go_ret2
        refine ⟨_, svk, evk, nfk, rfl, HTK.out.sl, ?_, HTK.out.nf, HTK.out.kept⟩
        rw [← HSM.out]
        exact HTK.out.we
theorem many_end {n : Nd} (h : endB n = true) : n.many = 0 := by
  simp only [endB, Bool.and_eq_true, beq_iff_eq] at h
  exact h.1.2
theorem many_talk {n : Nd} (h : talkS true n = true) : 1 ≤ n.many ∧ n.many ≤ 4 := by
  simp only [talkS, manyB, Bool.and_eq_true, decide_eq_true_eq] at h
  omega
theorem add_calls : ∀ f : Nat, AddCalls f := by
  intro f
  induction f with
  | zero =>
    intro st l r v w B wb mb base nf sv ev W ha hsh hsl hB1 hB2 hB3 hwe hfit
    cases l with
    | nil => cases ha
    | cons n l1 =>
      obtain ⟨b, o, cap, rfl, hc1, hc2, hb, hr⟩ := hsl.parts
      obtain ⟨op, name, peer, many, sort⟩ := n
      by_cases h1 : op = 1
      · subst h1
        rw [ahead_1 rfl] at ha
        split at ha
        · injection ha with ha
          subst ha
          exact add_var name peer many sort l1 w B wb mb base nf b o cap sv ev W (hsh _ (List.mem_cons_self)).1 hb ⟨hB1, hB2, hB3⟩ hc1 hc2 hr hwe
        · cases ha
      · by_cases h0 : op = 0
        · rw [ahead_0 h0] at ha
          split at ha
          · rename_i he
            injection ha with ha
            subst ha
            have hm : many = 0 := many_end he
            subst hm
            have := add_talk 0 0 (fun h => absurd h (by omega)) st op name peer sort l1 l1 w B wb mb base nf b o cap sv ev W h1 (by omega) ⟨by omega, by omega⟩ hsh rfl hb ⟨hB1, hB2, hB3⟩ hc1 hc2 hr hwe hfit
            have e1 : (op == 1) = false := by simpa using h1
            rw [wv]
            simp only [e1]
            exact this
          · cases ha
        · rw [ahead_t0 h0 h1] at ha; cases ha
  | succ f ih =>
    intro st l r v w B wb mb base nf sv ev W ha hsh hsl hB1 hB2 hB3 hwe hfit
    cases l with
    | nil => cases ha
    | cons n l1 =>
      obtain ⟨b, o, cap, rfl, hc1, hc2, hb, hr⟩ := hsl.parts
      obtain ⟨op, name, peer, many, sort⟩ := n
      by_cases h1 : op = 1
      · subst h1
        rw [ahead_1 rfl] at ha
        split at ha
        · injection ha with ha
          subst ha
          exact add_var name peer many sort l1 w B wb mb base nf b o cap sv ev W (hsh _ (List.mem_cons_self)).1 hb ⟨hB1, hB2, hB3⟩ hc1 hc2 hr hwe
        · cases ha
      · have e1 : (op == 1) = false := by simpa using h1
        by_cases h2 : op = 2
        · subst h2
          rw [ahead_2 rfl] at ha
          split at ha
          · exact add_rec f ih st name peer many sort l1 r w B wb mb base nf b o cap sv ev W hsh ha hb ⟨hB1, hB2, hB3⟩ hc1 hc2 hr hwe hfit
          · cases ha
        · have e2 : (op == 2) = false := by simpa using h2
          by_cases h0 : op = 0
          · rw [ahead_0 h0] at ha
            split at ha
            · rename_i he
              injection ha with ha
              subst ha
              have hm : many = 0 := many_end he
              subst hm
              have := add_talk f 0 (fun h => absurd h (by omega)) st op name peer sort l1 l1 w B wb mb base nf b o cap sv ev W h1 h2 ⟨by omega, by omega⟩ hsh rfl hb ⟨hB1, hB2, hB3⟩ hc1 hc2 hr hwe hfit
              rw [wv]
              simp only [e1, e2]
              exact this
            · cases ha
          · rw [ahead_t h0 h1 h2] at ha
            split at ha
            · rename_i ht
              have hm := many_talk ht
              dsimp only at hm ha
              have := add_talk f many (fun _ => ih) _ op name peer sort l1 r w B wb mb base nf b o cap sv ev W h1 h2 ⟨by omega, by omega⟩ hsh ha hb ⟨hB1, hB2, hB3⟩ hc1 hc2 hr hwe hfit
              rw [wv]
              simp only [e1, e2]
              exact this
            · cases ha
end Go.Proofs.Ythaomohoiginnaa
