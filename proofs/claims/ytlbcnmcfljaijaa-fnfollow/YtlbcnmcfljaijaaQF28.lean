import Derived.Test.YtlbcnmcfljaijaaQF26
import Derived.Test.YtlbcnmcfljaijaaQF25
import Derived.Test.YtlbcnmcfljaijaaQF03
namespace Go.Proofs.Ytlbcnmcfljaijaa
open Go.RowKit
set_option linter.unusedVariables false

set_option maxRecDepth 100000 in
set_option maxHeartbeats 1000000 in
theorem stext0 (part : Bool) (f : Nat) (st all r : List Nd) (pos : Nat) (v : Value) (w : World) (hst : StW st) (hpl : pos < all.length) (h40 : all.length ≤ 40)
    (many sort : Int) (name peer : ByteArray) (hn : all[pos] = ⟨0, name, peer, many, sort⟩) (ha : ahead (talkS part) f st (all.drop pos) = some r) (hx : ArrAt w v all) :
    Calls Try.prog 84 #[v, .int .i64 pos] w fun e w' => e = .returned (.tuple #[.string (textF f (all.drop pos)).1, .int .i64 ((all.length - r.length : Nat) : Int)]) ∧ Below w.heap.size w w' := by
  obtain ⟨b, o, cap, rfl, hc, hm, hrow, hbw⟩ := hx
  have hnode := hrow.get pos hpl
  have hdrop : all.drop pos = ⟨0, name, peer, many, sort⟩ :: all.drop (pos + 1) := by rw [← hn]; exact drop_cons hpl
  rw [hn] at hnode
  obtain ⟨c0, c1, c2, c3, c4⟩ := hnode
  dsimp only at c0 c1 c2 c3 c4
  rw [hdrop] at ha ⊢
  rw [ahead_0 rfl] at ha
  obtain ⟨hre, hz1, hpz⟩ : r = all.drop (pos + 1) ∧ name.size ≤ 20 ∧ peer.size = 0 := by
    split at ha
    · rename_i h
      cases ha
      refine ⟨rfl, ?_, ?_⟩
      · have : name.size = 0 := by
          have h0 : name.data.toList = [] := by rw [← Go.ByteArray.toList_eq]; simp only [endB, Bool.and_eq_true, beq_iff_eq] at h; simp [h]
          have h3 : name.size = name.data.toList.length := rfl
          rw [h3, h0]; rfl
        omega
      · exact by
          have h0 : peer.data.toList = [] := by rw [← Go.ByteArray.toList_eq]; simp only [endB, Bool.and_eq_true, beq_iff_eq] at h; simp [h]
          have h3 : peer.size = peer.data.toList.length := rfl
          rw [h3, h0]; rfl
    · cases ha
  have HRE : Hid ((textF f (⟨0, name, peer, many, sort⟩ :: all.drop (pos + 1))).1 = ba [101, 110, 100] ∧ r = all.drop (pos + 1)) := hide ⟨by cases f <;> rfl, hre⟩
  have hz2 : peer.size ≤ 20 := by rw [hpz]; simp
  clear hrow hn hdrop ha hre
  go_enter Try.func84, Try.ntmps84
  go_wp2_with fail
  go_ret2
  refine ⟨?_, alloc1 _ _⟩
  rw [HRE.out.1, HRE.out.2, List.length_drop, show ((all.length - (all.length - (pos + 1)) : Nat) : Int) = (pos : Int) + 1 from by omega]
  rfl

set_option maxRecDepth 100000 in
set_option maxHeartbeats 1000000 in
theorem stext1 (part : Bool) (f : Nat) (st all r : List Nd) (pos : Nat) (v : Value) (w : World) (hst : StW st) (hpl : pos < all.length) (h40 : all.length ≤ 40)
    (many sort : Int) (name peer : ByteArray) (hn : all[pos] = ⟨1, name, peer, many, sort⟩) (ha : ahead (talkS part) f st (all.drop pos) = some r) (hx : ArrAt w v all) :
    Calls Try.prog 84 #[v, .int .i64 pos] w fun e w' => e = .returned (.tuple #[.string (textF f (all.drop pos)).1, .int .i64 ((all.length - r.length : Nat) : Int)]) ∧ Below w.heap.size w w' := by
  obtain ⟨b, o, cap, rfl, hc, hm, hrow, hbw⟩ := hx
  have hnode := hrow.get pos hpl
  have hdrop : all.drop pos = ⟨1, name, peer, many, sort⟩ :: all.drop (pos + 1) := by rw [← hn]; exact drop_cons hpl
  rw [hn] at hnode
  obtain ⟨c0, c1, c2, c3, c4⟩ := hnode
  dsimp only at c0 c1 c2 c3 c4
  rw [hdrop] at ha ⊢
  rw [ahead_1 rfl] at ha
  obtain ⟨hre, hz1, hpz⟩ : r = all.drop (pos + 1) ∧ name.size ≤ 20 ∧ peer.size = 0 := by
    split at ha
    · rename_i h'
      cases ha
      obtain ⟨h, hbk⟩ : varB ⟨1, name, peer, many, sort⟩ = true ∧ backB false st name = true := by simpa using h'
      refine ⟨rfl, back20 st false name hst hbk, ?_⟩
      exact by
          have h0 : peer.data.toList = [] := by rw [← Go.ByteArray.toList_eq]; simp only [varB, Bool.and_eq_true, beq_iff_eq] at h; simp [h]
          have h3 : peer.size = peer.data.toList.length := rfl
          rw [h3, h0]; rfl
    · cases ha
  have HRE : Hid ((textF f (⟨1, name, peer, many, sort⟩ :: all.drop (pos + 1))).1 = name ∧ r = all.drop (pos + 1)) := hide ⟨by cases f <;> rfl, hre⟩
  have hz2 : peer.size ≤ 20 := by rw [hpz]; simp
  clear hrow hn hdrop ha hre
  go_enter Try.func84, Try.ntmps84
  go_wp2_with fail
  go_ret2
  refine ⟨?_, alloc1 _ _⟩
  rw [HRE.out.1, HRE.out.2, List.length_drop, show ((all.length - (all.length - (pos + 1)) : Nat) : Int) = (pos : Int) + 1 from by omega]
  rfl

set_option maxRecDepth 100000 in
set_option maxHeartbeats 1000000 in
theorem stext2 (part : Bool) (f : Nat) (ih : STextCalls part f) (st all r : List Nd) (pos : Nat) (v : Value) (w : World) (hlen : st.length + (f + 1) = 10) (hst : StW st) (hpl : pos < all.length) (h40 : all.length ≤ 40)
    (many sort : Int) (name peer : ByteArray) (hn : all[pos] = ⟨2, name, peer, many, sort⟩) (ha : ahead (talkS part) (f + 1) st (all.drop pos) = some r) (hx : ArrAt w v all) :
    Calls Try.prog 84 #[v, .int .i64 pos] w fun e w' => e = .returned (.tuple #[.string (textF (f + 1) (all.drop pos)).1, .int .i64 ((all.length - r.length : Nat) : Int)]) ∧ Below w.heap.size w w' := by
  have HX := hide hx
  have HI := hide ih
  have HL := hide hlen
  obtain ⟨b, o, cap, rfl, hc, hm, hrow, hbw⟩ := hx
  have hnode := hrow.get pos hpl
  have hdrop : all.drop pos = ⟨2, name, peer, many, sort⟩ :: all.drop (pos + 1) := by rw [← hn]; exact drop_cons hpl
  rw [hn] at hnode
  obtain ⟨c0, c1, c2, c3, c4⟩ := hnode
  dsimp only at c0 c1 c2 c3 c4
  rw [hdrop] at ha ⊢
  rw [ahead_2 rfl] at ha
  obtain ⟨hrb, hgo⟩ : recB ⟨2, name, peer, many, sort⟩ = true ∧ ahead (talkS part) f (⟨2, name, peer, many, sort⟩ :: st) (all.drop (pos + 1)) = some r := by
    split at ha
    · rename_i h; simp only [Bool.and_eq_true] at h; exact ⟨h.1, ha⟩
    · cases ha
  have hz1 : name.size ≤ 20 := by simp only [recB, Bool.and_eq_true] at hrb; exact word20 hrb.2
  have hz2 : peer.size ≤ 20 := by
    have h0 : peer.data.toList = [] := by rw [← Go.ByteArray.toList_eq]; simp only [recB, Bool.and_eq_true, beq_iff_eq] at hrb; simp [hrb]
    have h3 : peer.size = peer.data.toList.length := rfl
    rw [h3, h0]; simp
  have hstw : StW (⟨2, name, peer, many, sort⟩ :: st) := fun x hx h2 => by
    rcases List.mem_cons.1 hx with e | e
    · rw [e]; exact hz1
    · exact hst x e h2
  obtain ⟨e1, s1⟩ := ahead_text part f _ _ r hstw hgo
  obtain ⟨t1, ht1⟩ : ∃ t1, (textF f (all.drop (pos + 1))).1 = t1 := ⟨_, rfl⟩
  rw [ht1] at s1
  have htz : t1.size ≤ 1720 := by rw [List.length_drop] at s1; omega
  have HT1 := hide ht1
  have HRE : Hid ((textF (f + 1) (⟨2, name, peer, many, sort⟩ :: all.drop (pos + 1))).1 = ba [114, 101, 99] ++ ba [32] ++ name ++ ba [46] ++ t1) := hide (by rw [← HT1.out]; rfl)
  have HST := hide hstw
  have HGO := hide hgo
  clear hrow hn hdrop ha hrb hgo hst hlen e1 s1 ht1 hstw ih
  go_enter Try.func84, Try.ntmps84
  go_wp2_with (go_at_call 84; refine (HI.out (⟨2, name, peer, many, sort⟩ :: st) all r (pos + 1) _ _ _ (by have := HL.out; simp; omega) HST.out (by omega) (by omega) h40 HGO.out (HX.out.carry (alloc1 _ _))).mono ?_; rintro e w1 ⟨rfl, hb1⟩; rw [HT1.out]; obtain ⟨d0, d1, d2, d3, d4⟩ := NodeAt.carry (B := _) (boxed0 w ⟨2, name, peer, many, sort⟩ 87) (by simp) hb1; dsimp only at d0 d1 d2 d3 d4; have hs1 : w.heap.size < w1.heap.size := (by have := hb1.size; simp at this; omega); have HB1 : Hid (Below w.heap.size w w1) := hide ((alloc1 _ _).trans (hb1.mono (by simp))); clear hb1)
  go_ret2
  refine ⟨?_, HB1.out⟩
  rw [HRE.out]
  first
    | rfl
    | (congr 4; done)
    | (congr 4; apply ba_ext; simp [ba])
end Go.Proofs.Ytlbcnmcfljaijaa
namespace Go.Proofs.Ytlbcnmcfljaijaa
open Go.RowKit

set_option maxRecDepth 100000 in
set_option maxHeartbeats 4000000 in
theorem stext3 (part : Bool) (f : Nat) (ih : STextCalls part f) (st all r : List Nd) (pos : Nat) (v : Value) (w : World) (hlen : st.length + (f + 1) = 10) (hst : StW st) (hpl : pos < all.length) (h40 : all.length ≤ 40)
    (many sort : Int) (name peer : ByteArray) (hn : all[pos] = ⟨3, name, peer, many, sort⟩) (ha : ahead (talkS part) (f + 1) st (all.drop pos) = some r) (hx : ArrAt w v all) :
    Calls Try.prog 84 #[v, .int .i64 pos] w fun e w' => e = .returned (.tuple #[.string (textF (f + 1) (all.drop pos)).1, .int .i64 ((all.length - r.length : Nat) : Int)]) ∧ Below w.heap.size w w' := by
  have HX := hide hx
  have HI := hide ih
  have HL := hide hlen
  obtain ⟨b, o, cap, rfl, hc, hm, hrow, hbw⟩ := hx
  have hnode := hrow.get pos hpl
  have HROW := hide hrow
  have hdrop : all.drop pos = ⟨3, name, peer, many, sort⟩ :: all.drop (pos + 1) := by rw [← hn]; exact drop_cons hpl
  rw [hn] at hnode
  obtain ⟨c0, c1, c2, c3, c4⟩ := hnode
  dsimp only at c0 c1 c2 c3 c4
  rw [hdrop] at ha ⊢
  rw [ahead_t (by simp) (by simp) (by simp)] at ha
  obtain ⟨hts, hk⟩ : talkS part ⟨3, name, peer, many, sort⟩ = true ∧ kidsBy (ahead (talkS part) f (⟨3, name, peer, many, sort⟩ :: st)) many.toNat [] (all.drop (pos + 1)) = some r := by
    split at ha
    · rename_i h; exact ⟨h, ha⟩
    · cases ha
  have hstw : StW (⟨3, name, peer, many, sort⟩ :: st) := fun x hx h2 => by
    rcases List.mem_cons.1 hx with e | e
    · rw [e] at h2; simp at h2
    · exact hst x e h2
  have hsz := talk_sz hts
  have hm14 : 1 ≤ many.toNat ∧ many.toNat ≤ 4 ∧ many = (many.toNat : Int) := by simp only [talkS, manyB, Bool.and_eq_true, decide_eq_true_eq] at hts; omega
  have hz2 : peer.size ≤ 20 := by simp only [talkS, Bool.and_eq_true] at hts; exact word20 hts.1.1.1
  have hz1 : name.size ≤ 20 := by
    simp only [talkS, Bool.and_eq_true] at hts
    cases part
    · simp at hts <;> first | exact word20 hts.2.1 | exact word20 hts.2.1.2
    · simp at hts <;> (
        have h0 : name.data.toList = [] := by rw [← Go.ByteArray.toList_eq]; simp [hts]
        have h3 : name.size = name.data.toList.length := rfl
        rw [h3, h0]; simp)
  obtain ⟨e1, s1, n1⟩ := kids_text (fun l r => ahead_text part f _ l r hstw) _ _ _ _ hk
  obtain ⟨m, hmm⟩ : ∃ m, many.toNat = m := ⟨_, rfl⟩
  rw [hmm] at hm14 s1 hk
  obtain ⟨hm1, hm4, hmI⟩ := hm14
  subst hmI
  obtain ⟨pre, hpre⟩ : ∃ pre, talkT ⟨3, name, peer, m, sort⟩ ++ ba [123] = pre := ⟨_, rfl⟩
  have hprez : pre.size ≤ 42 := by rw [← hpre, sz_app, sz_ba]; simp only [List.length_cons, List.length_nil]; have : (talkT ⟨3, name, peer, m, sort⟩).size ≤ 41 := hsz; omega
  have HPRE := hide hpre
  have HST := hide hstw
  have HK := hide hk
  have HS1 : Hid (sumSz (casesF (textF f) m (all.drop (pos + 1))).1 ≤ 1720) := hide (by have h := s1; rw [List.length_drop] at h; omega)
  have HRE : Hid ((textF (f + 1) (⟨3, name, peer, m, sort⟩ :: all.drop (pos + 1))).1 = pre ++ joinC (casesF (textF f) m (all.drop (pos + 1))).1 ++ ba [125]) := hide (by rw [← HPRE.out]; rfl)
  obtain ⟨tot, htot⟩ : ∃ tot, (casesF (textF f) m (all.drop (pos + 1))).1 = tot := ⟨_, rfl⟩
  have HTOT := hide htot
  clear hrow hn hdrop ha hts hstw hsz hst hlen e1 s1 n1 hmm hpre hk htot ih
  go_enter Try.func84, Try.ntmps84
  go_wp2_with fail
  go_loopw [1, 7, 10] (fun av tv kv wr => ∃ (k p : Nat) (acc ls : List ByteArray), k ≤ m ∧ kv = .int .i64 k ∧ av = .int .i64 p ∧ p ≤ all.length ∧ tv = .string (pre ++ joinC acc) ∧ acc.length = k ∧ kidsBy (ahead (talkS part) f (⟨3, name, peer, m, sort⟩ :: st)) (m - k) ls (all.drop p) = some r ∧ acc ++ (casesF (textF f) (m - k) (all.drop p)).1 = tot ∧ Below (w.heap.size + 1) (w.alloc (.cells #[.int .i64 3, .string name, .string peer, .int .i64 (m : Int), .int .i64 sort] 87)) wr)
    (fun _ _ kv _ => m - (intOf kv).toNat)
  case atStart =>
    refine ⟨0, pos + 1, [], [], Nat.zero_le _, rfl, by go_num, by omega, ?_, rfl, HK.out, HTOT.out, Below.refl _ _⟩
    congr 1
    rw [← HPRE.out]
    apply ba_ext
    simp [talkT, joinC, ba]
  case round =>
    obtain ⟨k, p, acc, ls, hk, rfl, rfl, hp, rfl, hacc, hkid, htx, hbel⟩ := hrel
    have HACC := hide hacc
    have HKID := hide hkid
    have HT := hide htx
    have HBEL := hide hbel
    have hszr : w.heap.size + 1 ≤ wr.heap.size := by have := hbel.size; simpa using this
    have HW : Hid (Below w.heap.size w wr) := hide ((alloc1 _ _).trans (hbel.mono (by omega)))
    have hbox : wr.cell? ⟨w.heap.size, 3, none⟩ = some (.int .i64 (m : Int)) := (hbel.cell (p := ⟨w.heap.size, 3, none⟩) (by simp)).trans (by simp)
    have hjs : (joinC acc).size ≤ 1720 := by
      have h1 := joinC_sz acc
      have h2 := HS1.out
      rw [HTOT.out, ← htx] at h2
      have h3 : sumSz (acc ++ (casesF (textF f) (m - k) (all.drop p)).1) = sumSz acc + sumSz (casesF (textF f) (m - k) (all.drop p)).1 := by simp [sumSz]
      omega
    obtain ⟨tc, htc⟩ : ∃ tc, pre ++ joinC acc = tc := ⟨_, rfl⟩
    have htcz : tc.size ≤ 1762 := by rw [← htc, sz_app]; omega
    rw [htc]
    have HTC := hide htc
    clear hacc hkid htx hbel htc hjs
    by_cases hlt : k < m
    · obtain ⟨c, l1, r1, hcl, hcb, hg1, hk1⟩ := kids_inv hlt HKID.out
      have hpl2 : p < all.length := by
        rcases Nat.lt_or_ge p all.length with h | h
        · exact h
        · rw [List.drop_of_length_le h] at hcl; cases hcl
      rw [drop_cons hpl2] at hcl
      injection hcl with hc0 hl0
      have hnode := (HROW.out.get p hpl2).carry hbw HW.out
      rw [hc0] at hnode
      have HND := hide hnode
      have HCB := hide hcb
      have HG1 := hide hg1
      have HK1 := hide hk1
      have hbw2 : b < wr.heap.size := Nat.lt_of_lt_of_le hbw HW.out.size
      have hcz : c.name.size ≤ 20 := by simp only [caseB, Bool.and_eq_true] at hcb; exact word20 hcb.1.2
      have hso : 0 ≤ c.sort ∧ c.sort ≤ 2 := by simp only [caseB, sortB, Bool.and_eq_true, decide_eq_true_eq] at hcb; exact hcb.2
      obtain ⟨e1, s1⟩ := ahead_text part f _ l1 r1 HST.out hg1
      have HTS := hide (cases_step (tf := textF f) (c := c) (l1 := l1) hlt)
      have HDR := hide (show all.drop p = c :: l1 by rw [drop_cons hpl2, hc0, hl0])
      subst hl0
      obtain ⟨t1, ht1⟩ : ∃ t1, (textF f (all.drop (p + 1))).1 = t1 := ⟨_, rfl⟩
      rw [ht1] at s1
      have htz : t1.size ≤ 1720 := by rw [List.length_drop] at s1; omega
      have HT1 := hide ht1
      have HE1 := hide e1
      obtain ⟨sv, hsv⟩ : ∃ sv, sortT c.sort = sv := ⟨_, rfl⟩
      have hsvz : sv.size ≤ 4 := by rw [← hsv]; exact sort_sz _
      have HSV := hide hsv
      have HCT : Hid (caseT c t1 = c.name ++ ba [40] ++ sv ++ ba [41, 46] ++ t1) := hide (by rw [← hsv]; rfl)
      have HPOS := hide (pos_of (ahead_suffix (talkS part) f _ (all.drop (p + 1)) r1 hg1))
      obtain ⟨p2, hp2⟩ : ∃ p2, all.length - r1.length = p2 := ⟨_, rfl⟩
      have HP2 := hide hp2
      have HSO := hide hso
      clear hcb hg1 hk1 hc0 hnode e1 s1 ht1 hsv hp2 hso
      rcases Nat.eq_zero_or_pos k with hk0 | hk0
      · subst hk0
        have HA0 : Hid (acc = []) := hide (List.length_eq_zero_iff.1 HACC.out)
        go_wp2_with (go_at_call 84; refine (HI.out (⟨3, name, peer, m, sort⟩ :: st) all r1 (p + 1) _ _ _ (by have := HL.out; simp; omega) HST.out (by omega) (by omega) h40 HG1.out (HX.out.carry HW.out)).mono ?_; rintro e w1 ⟨rfl, hb1⟩; rw [HT1.out, HP2.out]; have HN1 := hide (HND.out.carry hbw2 hb1); obtain ⟨d0, d1, d2, d3, d4⟩ := HND.out.carry hbw2 hb1; have HB1 := hide hb1; have hz1 := hb1.size; have hbw1 : b < w1.heap.size := Nat.lt_of_lt_of_le hbw2 hz1; clear hb1 d0 d2 d3)
        have q1 : ¬ 9223372036854775807 < tc.size + c.name.size := by omega
        have q2a : ¬ 9223372036854775807 ≤ tc.size + c.name.size := by omega
        have q2b : ¬ 9223372036854775807 < tc.size + c.name.size + 1 := by omega
        have q2c : ¬ 9223372036854775806 < tc.size + c.name.size := by omega
        have q3 : ¬ 9223372036854775807 < tc.size + c.name.size + 1 + sv.size := by omega
        have q4 : ¬ 9223372036854775807 < tc.size + c.name.size + 1 + sv.size + 2 := by omega
        have q4b : ¬ 9223372036854775805 < tc.size + c.name.size + 1 + sv.size := by omega
        have q5 : ¬ 9223372036854775807 < tc.size + c.name.size + 1 + sv.size + 2 + t1.size := by omega
        go_region_with (go_at_call 85; refine (s_sortText c.sort _ HSO.out.1 HSO.out.2).mono ?_; rintro e w2 ⟨rfl, hb2⟩; rw [HSV.out]; have HN2 : Hid (NodeAt w2 b (o + p * 5) c) := hide (NodeAt.carry (w := w1.drew) (B := w1.heap.size) HN1.out hbw1 hb2); obtain ⟨f0, f1, f2, f3, f4⟩ := HN2.out; have HB2 : Hid (Below w1.heap.size w1 w2) := hide (Below.trans (Below.refl _ _).drew hb2); clear hb2 f0 f2 f3)
        go_wp2_with fail
        all_goals
          go_roundw
          case rel =>
            have hpos := HPOS.out
            rw [HP2.out] at hpos
            refine ⟨0 + 1, p2, acc ++ [caseT c t1], ls ++ [c.name], by omega, by go_num, rfl, by have := HP2.out; omega, ?_, by have := HACC.out; rw [List.length_append]; simp only [List.length_cons, List.length_nil]; omega, by rw [← hpos]; exact HK1.out, ?_, HBEL.out.trans ((HB1.out.mono hszr).trans (HB2.out.mono (Nat.le_trans hszr hz1)))⟩
            · congr 1
              rw [HCT.out, ← HTC.out]
              rw [HA0.out]
              apply ba_ext
              simp [joinC, ba]
            · rw [← HT.out, HDR.out, HTS.out, HT1.out, HE1.out, ← hpos]; simp
          case measure => simp [intOf]; omega
      · have HA1 : Hid (acc ≠ []) := hide (fun h => by have := HACC.out; rw [h] at this; simp at this; omega)
        have hkI : (0 : Int) < (k : Int) := by omega
        go_wp2_with (go_at_call 84; refine (HI.out (⟨3, name, peer, m, sort⟩ :: st) all r1 (p + 1) _ _ _ (by have := HL.out; simp; omega) HST.out (by omega) (by omega) h40 HG1.out (HX.out.carry HW.out)).mono ?_; rintro e w1 ⟨rfl, hb1⟩; rw [HT1.out, HP2.out]; have HN1 := hide (HND.out.carry hbw2 hb1); obtain ⟨d0, d1, d2, d3, d4⟩ := HND.out.carry hbw2 hb1; have HB1 := hide hb1; have hz1 := hb1.size; have hbw1 : b < w1.heap.size := Nat.lt_of_lt_of_le hbw2 hz1; clear hb1 d0 d2 d3)
        have q1 : ¬ 9223372036854775807 < tc.size + 1 + c.name.size := by omega
        have q2a : ¬ 9223372036854775807 ≤ tc.size + 1 + c.name.size := by omega
        have q2b : ¬ 9223372036854775807 < tc.size + 1 + c.name.size + 1 := by omega
        have q2c : ¬ 9223372036854775806 < tc.size + 1 + c.name.size := by omega
        have q3 : ¬ 9223372036854775807 < tc.size + 1 + c.name.size + 1 + sv.size := by omega
        have q4 : ¬ 9223372036854775807 < tc.size + 1 + c.name.size + 1 + sv.size + 2 := by omega
        have q4b : ¬ 9223372036854775805 < tc.size + 1 + c.name.size + 1 + sv.size := by omega
        have q5 : ¬ 9223372036854775807 < tc.size + 1 + c.name.size + 1 + sv.size + 2 + t1.size := by omega
        go_region_with (go_at_call 85; refine (s_sortText c.sort _ HSO.out.1 HSO.out.2).mono ?_; rintro e w2 ⟨rfl, hb2⟩; rw [HSV.out]; have HN2 : Hid (NodeAt w2 b (o + p * 5) c) := hide (NodeAt.carry (w := w1.drew) (B := w1.heap.size) HN1.out hbw1 hb2); obtain ⟨f0, f1, f2, f3, f4⟩ := HN2.out; have HB2 : Hid (Below w1.heap.size w1 w2) := hide (Below.trans (Below.refl _ _).drew hb2); clear hb2 f0 f2 f3)
        go_wp2_with fail
        all_goals
          go_roundw
          case rel =>
            have hpos := HPOS.out
            rw [HP2.out] at hpos
            refine ⟨k + 1, p2, acc ++ [caseT c t1], ls ++ [c.name], by omega, by go_num, rfl, by have := HP2.out; omega, ?_, by have := HACC.out; rw [List.length_append]; simp only [List.length_cons, List.length_nil]; omega, by rw [← hpos]; exact HK1.out, ?_, HBEL.out.trans ((HB1.out.mono hszr).trans (HB2.out.mono (Nat.le_trans hszr hz1)))⟩
            · congr 1
              rw [HCT.out, ← HTC.out]
              rw [joinC_snoc HA1.out]
              apply ba_ext
              simp [ba]
            · rw [← HT.out, HDR.out, HTS.out, HT1.out, HE1.out, ← hpos]; simp
          case measure => simp [intOf]; omega
    · have hkm : k = m := by omega
      have HTOT2 : Hid (acc = tot) := hide (by have := HT.out; rw [hkm, Nat.sub_self] at this; simpa [casesF] using this)
      have HDR : Hid (all.drop p = r) := hide (by have := HKID.out; rw [hkm, Nat.sub_self] at this; simpa [kidsBy] using this)
      have HPL : Hid (p = all.length - r.length) := hide (by have h := congrArg List.length HDR.out; rw [List.length_drop] at h; omega)
      have hkI : ¬ (k : Int) < (m : Int) := by omega
      clear hkm
      go_wp2_with fail
      go_ret2
      refine ⟨?_, HW.out⟩
      rw [HRE.out, HTOT.out, ← HTOT2.out, HTC.out, ← HPL.out]; rfl
end Go.Proofs.Ytlbcnmcfljaijaa
namespace Go.Proofs.Ytlbcnmcfljaijaa
open Go.RowKit
attribute [local go_sem ↓] Go.wp_at_zero Go.wp_at_succ

set_option maxRecDepth 100000 in
set_option maxHeartbeats 4000000 in
theorem make_talk (f : Nat) (hf : MakeCalls f) (st all r : List Nd) (pos : Nat) (w : World) (xb B base : Nat) (v sv ev : Value) (z : Int) (nv fv : Value) (sts : List RState) (eds : List REdge) (ns : List ByteArray) (fis : List Int) (op K : Int) (name peer : ByteArray) (M : Nat) (sort : Int) (hpos : pos < all.length) (hx : all[pos] = ⟨op, name, peer, (M : Int), sort⟩)
    (hop : (op = 5 ∧ K = 1) ∨ (op = 6 ∧ K = 2)) (hM : M ≤ 4) (ha : kidsBy (ahead (talkS true) f st) M [] (all.drop (pos + 1)) = some r) (hall : all.length ≤ 40) (hlen : fis.length = ns.length) (hns : ns.length + (f + 1) ≤ 100) (hcs : cntS all pos = sts.length) (hed : eds.length + (all.length - pos) ≤ 900) (h : MkAt w xb B base v sv ev z nv fv all sts eds ns fis) :
    Calls Try.prog 55 #[.pointer (some ⟨xb, 0, none⟩), .int .i64 (pos : Int)] w fun e w' => Made w w' xb B base v z (rows4 sv ev nv fv) all ns fis e (svKids (Go.Proofs.Ytlbcnmcfljaijaa.sv f ns fis) (fun l k => firstOf ns fis k l) (sts.length : Int) M (all.drop (pos + 1)) (sts ++ [⟨K, peer⟩], eds)) := by
  have H := hide h
  have c0 := h.box.cell 0 _ rfl
  have c1 := h.box.cell 1 _ rfl
  have cz := h.box.fz
  have hxw := h.box.lt
  obtain ⟨i0, hi, hz0, hz1, hz2⟩ := info_parts Try.infoRState
  have HI := hide (And.intro hi (And.intro hz0 (And.intro hz1 hz2)))
  obtain ⟨ps, cs, hps⟩ := owns_shape h.st
  obtain ⟨ao, cap, rfl, hc1, hc2, hr⟩ := h.sl
  obtain ⟨b, o, rfl, hb, hrow⟩ := hr (by rintro rfl; simp at hpos)
  have hnode := hrow.get pos hpos
  rw [hx] at hnode
  obtain ⟨d0, d1, d2, d3, d4⟩ := hnode
  dsimp only at d0 d1 d2 d3 d4
  subst hps
  have hst : sts.length ≤ 40 := by have := cntS_le all pos; omega
  have hcs2 : cntS all (pos + 1) = (sts ++ [(⟨K, peer⟩ : RState)]).length := by
    rw [cntS_succ hpos, hx, hcs, List.length_append, List.length_singleton]
    rcases hop with ⟨rfl, -⟩ | ⟨rfl, -⟩ <;> rfl
  obtain ⟨fin, hfin⟩ : ∃ x, svKids (Go.Proofs.Ytlbcnmcfljaijaa.sv f ns fis) (fun l k => firstOf ns fis k l) (sts.length : Int) M (all.drop (pos + 1)) (sts ++ [⟨K, peer⟩], eds) = x := ⟨_, rfl⟩
  rw [hfin]
  obtain ⟨WN, hWN⟩ : ∃ WN, WN = (w.alloc (.cells #[.int .i64 op, .string name, .string peer, .int .i64 (M : Int), .int .i64 sort] 87)) := ⟨_, rfl⟩
  have HN3 : Hid (WN.cell? ⟨w.heap.size, 3, none⟩ = some (.int .i64 (M : Int))) := hide (by rw [hWN]; simp)
  have HWN0 : Hid (Mk4 w WN xb (rows4 (.slice ps sts.length cs) ev nv fv) (rows4 (.slice ps sts.length cs) ev nv fv)) := hide (by rw [hWN]; exact Mk4.far (Far.ofBelow (malloc1 w _)))
  have HWN := hide hWN
  clear hWN
  have HST : Hid (∀ (W : World) (sv2 : Value), MkAt W xb B base (.slice (some ⟨b, o, none⟩) all.length cap) sv2 ev z nv fv all (sts ++ [⟨K, peer⟩]) eds ns fis → Mkept w W base xb → Mk4 WN W xb (rows4 (.slice ps sts.length cs) ev nv fv) (rows4 sv2 ev nv fv) → TalkS w WN W xb B base (.slice (some ⟨b, o, none⟩) all.length cap) z (rows4 (.slice ps sts.length cs) ev nv fv) all ns fis (Go.Proofs.Ytlbcnmcfljaijaa.sv f ns fis) (ahead (talkS true) f st) (sts.length : Int) r fin M (pos + 1) (sts ++ [⟨K, peer⟩]) eds sv2 ev nv fv) := hide (fun W sv2 h1 h2 h3 => ⟨h1, ⟨[], ha⟩, by omega, hcs2, by omega, hfin, h2, h3⟩)
  have HF := hide hf
  have HLEN := hide hlen
  have HW1 : Hid (∀ ob : Obj, MkAt (w.alloc ob).drew xb B base (.slice (some ⟨b, o, none⟩) all.length cap) (.slice ps sts.length cs) ev z nv fv all sts eds ns fis) := hide (fun ob => (H.out.far ((Far.ofBelow (Below.refl _ _)).alloc ob)).drew)
  have HOLD := hide (rows_old H.out)
  have HS := hide H.out.sz
  have HROW := hide hrow
  clear h hr hi hz0 hz1 hz2 hf ha hcs hcs2 hfin hx hrow hed hlen
  rcases hop with ⟨rfl, rfl⟩ | ⟨rfl, rfl⟩
  all_goals
    go_enter Try.func55, Try.ntmps55
    go_wp2_with fail
    go_region_law (refine stepM_at rfl (.tmp 117) (.tmp 122) 23 rfl base 48 i0 (.agg #[.int .i64 0, .string ByteArray.empty]) 2 24 Try.underlying23 HI.out.1 HI.out.2.1 HI.out.2.2.1 HI.out.2.2.2 rfl (by decide) (.slice ps sts.length cs) sts.length (sts.flatMap RState.cells) (by simp [Act.eval]) (owns_below (HW1.out _).st (malloc1 _ _)) ⟨w.heap.size + 1, 0, none⟩ 1 1 (RState.cells ⟨_, peer⟩) (by simp [Act.eval]) rfl (fun j u hj => new_row1q _ _ _ _ (by simp) j u hj) (RState.cells_one _) (by unfold maxLen; omega) (by omega) (by have := HS.out; simp; omega) ?_; intro v4 w4 hown4 hgr4 hat4; have HM4 := hide (mk_push1 (HW1.out _) _ _ hown4 hgr4 hat4); have HX4 := hide (mk4_S (w3 := (w.alloc (.cells #[.int .i64 _, .string name, .string peer, .int .i64 (M : Int), .int .i64 sort] 87)).drew) (xb := xb) (ev := ev) (nv := nv) (fv := fv) hown4 _ hgr4 hat4); have HB4 := hide ((HW1.out (.cells #[.int .i64 _, .string name, .string peer, .int .i64 (M : Int), .int .i64 sort] 87)).box.keep ((below_apart (malloc1 _ _)).trans (grownBy_apart hgr4)) (fun hm => by rw [List.nil_append] at hm; have := H.out.st.fresh.lo _ hm; have := H.out.low; omega)); have l1 := HB4.out.cell 1 _ rfl; have lz := HB4.out.fz; obtain ⟨p4, c4, rfl⟩ := owns_shape hown4; clear hown4 hgr4 hat4)
    all_goals
      obtain ⟨W5, hW5⟩ : ∃ W, W = w4.setCell ⟨xb, 1, none⟩ (.slice p4 (sts.length + 1) c4) := ⟨_, rfl⟩
      rw [← hW5]
      have HM5 := hide (show MkAt W5 xb B base (.slice (some ⟨b, o, none⟩) all.length cap) (.slice p4 (sts.length + 1) c4) ev z nv fv all (sts ++ [⟨_, peer⟩]) eds ns fis by rw [hW5]; exact HM4.out.1)
      have HK5 := hide (show Mkept w W5 base xb by rw [hW5]; exact ((Far.ofBelow (malloc1 w _)).ap.drew.mkept H.out.sz (by simp)).trans HM4.out.2)
      have HX5 := hide (show Mk4 WN W5 xb (rows4 (.slice ps sts.length cs) ev nv fv) (rows4 (.slice p4 (sts.length + 1) c4) ev nv fv) by rw [hW5, HWN.out]; exact (Mk4.far ⟨(Apart.refl _).drew⟩).trans HX4.out)
      have HT5 := hide (HST.out W5 _ HM5.out HK5.out HX5.out)
      clear hW5 HM4 HB4 HX4 l1 lz HM5 HK5 HX5
      go_wp2_with fail
      go_loopw [1, 11] (fun pv i wr => ∃ (k posk : Nat) (stsk : List RState) (edsk : List REdge) (svk evk nvk fvk : Value), k ≤ M ∧ i = .int .i64 k ∧ pv = .int .i64 posk ∧ TalkS w WN wr xb B base (.slice (some ⟨b, o, none⟩) all.length cap) z (rows4 (.slice ps sts.length cs) ev nv fv) all ns fis (Go.Proofs.Ytlbcnmcfljaijaa.sv f ns fis) (ahead (talkS true) f st) (sts.length : Int) r fin (M - k) posk stsk edsk svk evk nvk fvk) (fun _ i _ => M - (intOf i).toNat)
      case atStart => exact ⟨0, pos + 1, _, eds, _, ev, nv, fv, Nat.zero_le _, rfl, by go_num, HT5.out⟩
      case round =>
        obtain ⟨k, posk, stsk, edsk, svk, evk, nvk, fvk, hk, rfl, rfl, htk⟩ := hrel
        have HTK := hide htk
        have n3 : wr.cell? ⟨w.heap.size, 3, none⟩ = some (.int .i64 (M : Int)) := htk.four.cell HN3.out (by omega) (fun hm => by have := HOLD.out _ hm; omega)
        clear htk
        by_cases hlt : k < M
        · obtain ⟨m', hm'⟩ : ∃ m', M - k = m' + 1 := ⟨M - k - 1, by omega⟩
          have HMK1 : Hid (M - (k + 1) = m') := hide (by omega)
          rw [hm'] at HTK
          obtain ⟨hpl, fstv, O, hfir, hmk, hnx, hedl⟩ := talk_round HTK.out HF.out HLEN.out hall hns
          have HFIR := hide hfir
          have HMK := hide hmk
          have HNX := hide hnx
          have e0 := HTK.out.ma.box.cell 0 _ rfl
          have hxr := HTK.out.ma.box.lt
          have hrow' := sl_row HTK.out.ma.sl (by rintro rfl; simp at hpl)
          obtain ⟨-, m1, -, -, m4⟩ := hrow'.get posk hpl
          obtain ⟨cname, hcn⟩ : ∃ x, all[posk].name = x := ⟨_, rfl⟩
          obtain ⟨csort, hcs⟩ : ∃ x, all[posk].sort = x := ⟨_, rfl⟩
          rw [hcn] at m1 HMK
          rw [hcs] at m4 HMK
          clear hfir hmk hnx hrow' hcn hcs hm'
          go_wp2_with fail
          refine wp_region_tail1 21 (.tmp 0) (.pointer (some ⟨xb, 0, none⟩)) rfl rfl rfl (by kernel_rfl) (by kernel_rfl) (fun _ _ _ _ h => h) (fun W hW => ?_)
          simp only [List.take_succ_cons, List.take_zero, List.drop_succ_cons, List.drop_zero, Act.put, List.setIfInBounds_toArray, List.set_cons_zero, List.set_cons_succ]
          have hne := grown_some W
          have k0 := grown_cell (w := W) (by rw [hW]; exact e0)
          have k1 := grown_cell (w := W) (by rw [hW]; exact m1)
          have k4 := grown_cell (w := W) (by rw [hW]; exact m4)
          have HBW : Hid (Below wr.heap.size wr W) := hide (by rw [hW]; exact Below.refl _ _)
          have HWE := hide hW
          clear hW
          repeat (go_big_quiet_step (first
            | (go_at_call 54; exact grown_more (HFIR.out _ (HBW.out.trans ((Grown.bel _).mono HBW.out.size))))))
          refine wpQuiet_nil ?_
          intro w2 hw2
          have HB2 : Hid (Below wr.heap.size wr w2) := hide (HBW.out.trans (hw2.mono HBW.out.size))
          have HM2 := hide (far_below HTK.out.ma HB2.out)
          clear hw2 hne k0 k1 k4
          go_wp2_with (first
            | (go_at_call 68; refine (mk_edge ⟨(sts.length : Int), cname, csort, fstv⟩ w2 xb base evk edsk (by omega) HM2.out.edAt).mono ?_; rintro e w3 ⟨ev3, rfl, ho3, hc3, he3⟩; have HE3 := hide (mk_edged HM2.out ho3 hc3 he3); clear ho3 hc3 he3)
            | (go_at_call 55; refine (HMK.out w3 ev3 HE3.out.1).mono ?_; rintro e w4' ⟨sv4, ev4, nv4, fv4, rfl, hm4, hk4, hx4⟩; have HM4' := hide hm4; have HK4' := hide hk4; have HX4' := hide hx4; clear hm4 hk4 hx4))
          go_roundw
          case rel =>
            refine ⟨k + 1, all.length - O.1.length, O.2.1, O.2.2, sv4, ev4, nv4, fv4, hlt, by go_num, rfl, ?_⟩
            rw [HMK1.out]
            exact HNX.out w3 w4' ev3 sv4 ev4 nv4 fv4 (((Far.ofBelow HB2.out).ap.mkept HTK.out.ma.sz (by simp)).trans HE3.out.2.1) ((Mk4.far (Far.ofBelow HB2.out)).trans HE3.out.2.2) HM4'.out HK4'.out HX4'.out
          case measure => simp [intOf]; omega
        · have hzz : M - k = 0 := by omega
          rw [hzz] at HTK
          have HSM := hide HTK.out.same
          rw [svKids] at HSM
          have HLE : Hid (((all.length - (all.drop posk).length : Nat) : Int) = (posk : Int)) := hide (by have := HTK.out.le; rw [List.length_drop]; omega)
          go_wp2_with fail
          go_ret
          rw [← HSM.out]
          exact ⟨svk, evk, nvk, fvk, ret_int HLE.out, HTK.out.ma, HTK.out.kept, HWN0.out.trans HTK.out.four⟩
end Go.Proofs.Ytlbcnmcfljaijaa
namespace Go.Proofs.Ytlbcnmcfljaijaa
open Go.RowKit

theorem peer_end {n : Nd} (h : endB n = true) : n.peer = ByteArray.empty ∧ n.many = 0 := by
  simp only [endB, Bool.and_eq_true, beq_iff_eq] at h
  refine ⟨?_, h.1.2⟩
  have h1 := h.1.1.2
  rw [Go.ByteArray.toList_eq] at h1
  apply ByteArray.ext
  exact Array.ext' h1
theorem talk_op {n : Nd} (h : talkS true n = true) : (n.op = 5 ∨ n.op = 6) ∧ 1 ≤ n.many ∧ n.many ≤ 4 := by
  simp only [talkS, manyB, Bool.and_eq_true, Bool.or_eq_true, decide_eq_true_eq, beq_iff_eq, if_true] at h
  exact ⟨h.2.2, h.1.1.2⟩
theorem make_calls : ∀ f : Nat, MakeCalls f := by
  intro f
  induction f with
  | zero =>
    intro st all r pos w xb B base v sv ev z nv fv sts eds ns fis ha hall hpos hlen hns hcs hed h
    have hdr : all.drop pos = all[pos] :: all.drop (pos + 1) := List.drop_eq_getElem_cons hpos
    rw [hdr] at ha ⊢
    have hst : sts.length ≤ 1000 := by have := cntS_le all pos; omega
    by_cases h1 : all[pos].op = 1
    · rw [Go.Proofs.Ytlbcnmcfljaijaa.sv, if_pos (by simpa using h1)]
      exact make_var all pos w xb B base v sv ev z nv fv sts eds ns fis hall hpos h1 h
    · by_cases h0 : all[pos].op = 0
      · rw [ahead_0 h0] at ha
        split at ha
        · rename_i he
          rw [Go.Proofs.Ytlbcnmcfljaijaa.sv, if_neg (by simpa using h1), (peer_end he).1, h0]
          exact make_end all pos w xb B base v sv ev z nv fv sts eds ns fis hall hpos h0 hst h
        · cases ha
      · rw [ahead_t0 h0 h1] at ha; cases ha
  | succ f ih =>
    intro st all r pos w xb B base v sv ev z nv fv sts eds ns fis ha hall hpos hlen hns hcs hed h
    have hdr : all.drop pos = all[pos] :: all.drop (pos + 1) := List.drop_eq_getElem_cons hpos
    rw [hdr] at ha ⊢
    have hst : sts.length ≤ 1000 := by have := cntS_le all pos; omega
    by_cases h1 : all[pos].op = 1
    · rw [Go.Proofs.Ytlbcnmcfljaijaa.sv, if_pos (by simpa using h1)]
      exact make_var all pos w xb B base v sv ev z nv fv sts eds ns fis hall hpos h1 h
    · by_cases h2 : all[pos].op = 2
      · rw [ahead_2 h2] at ha
        split at ha
        · rw [Go.Proofs.Ytlbcnmcfljaijaa.sv, if_neg (by simpa using h1), if_pos (by simpa using h2)]
          obtain ⟨n, hn⟩ : ∃ n, all[pos] = n := ⟨_, rfl⟩
          rw [hn] at h2 ha ⊢
          obtain ⟨op, name, peer, many, sort⟩ := n
          dsimp only at h2
          subst h2
          exact make_rec f ih st all r pos w xb B base v sv ev z nv fv sts eds ns fis name peer many sort hpos hn ha hall hlen hns hcs hed h
        · cases ha
      · by_cases h0 : all[pos].op = 0
        · rw [ahead_0 h0] at ha
          split at ha
          · rename_i he
            rw [Go.Proofs.Ytlbcnmcfljaijaa.sv, if_neg (by simpa using h1), if_neg (by simpa using h2), (peer_end he).1, (peer_end he).2, h0]
            exact make_end all pos w xb B base v sv ev z nv fv sts eds ns fis hall hpos h0 hst h
          · cases ha
        · rw [ahead_t h0 h1 h2] at ha
          split at ha
          · rename_i ht
            rw [Go.Proofs.Ytlbcnmcfljaijaa.sv, if_neg (by simpa using h1), if_neg (by simpa using h2)]
            obtain ⟨n, hn⟩ : ∃ n, all[pos] = n := ⟨_, rfl⟩
            rw [hn] at ht ha ⊢
            obtain ⟨op, name, peer, many, sort⟩ := n
            have hop := talk_op ht
            dsimp only at hop ha ⊢
            obtain ⟨M, hM⟩ : ∃ M : Nat, many = (M : Int) := ⟨many.toNat, by omega⟩
            subst hM
            rw [Int.toNat_natCast] at ha ⊢
            exact make_talk f ih _ all r pos w xb B base v sv ev z nv fv sts eds ns fis op (kindW op) name peer M sort hpos hn (by rcases hop.1 with rfl | rfl; exact .inl ⟨rfl, rfl⟩; exact .inr ⟨rfl, rfl⟩) (by omega) ha hall hlen hns hcs hed h
          · cases ha
end Go.Proofs.Ytlbcnmcfljaijaa
