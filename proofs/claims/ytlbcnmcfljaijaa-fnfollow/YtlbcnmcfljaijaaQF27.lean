import Derived.Test.YtlbcnmcfljaijaaQF26
namespace Go.Proofs.Ytlbcnmcfljaijaa
open Go.RowKit

set_option maxRecDepth 100000 in
set_option maxHeartbeats 4000000 in
theorem stext5 (part : Bool) (f : Nat) (ih : STextCalls part f) (st all r : List Nd) (pos : Nat) (v : Value) (w : World) (hlen : st.length + (f + 1) = 10) (hst : StW st) (hpl : pos < all.length) (h40 : all.length ≤ 40)
    (many sort : Int) (name peer : ByteArray) (hn : all[pos] = ⟨5, name, peer, many, sort⟩) (ha : ahead (talkS part) (f + 1) st (all.drop pos) = some r) (hx : ArrAt w v all) :
    Calls Try.prog 84 #[v, .int .i64 pos] w fun e w' => e = .returned (.tuple #[.string (textF (f + 1) (all.drop pos)).1, .int .i64 ((all.length - r.length : Nat) : Int)]) ∧ Below w.heap.size w w' := by
  have HX := hide hx
  have HI := hide ih
  have HL := hide hlen
  obtain ⟨b, o, cap, rfl, hc, hm, hrow, hbw⟩ := hx
  have hnode := hrow.get pos hpl
  have HROW := hide hrow
  have hdrop : all.drop pos = ⟨5, name, peer, many, sort⟩ :: all.drop (pos + 1) := by rw [← hn]; exact drop_cons hpl
  rw [hn] at hnode
  obtain ⟨c0, c1, c2, c3, c4⟩ := hnode
  dsimp only at c0 c1 c2 c3 c4
  rw [hdrop] at ha ⊢
  rw [ahead_t (by simp) (by simp) (by simp)] at ha
  obtain ⟨hts, hk⟩ : talkS part ⟨5, name, peer, many, sort⟩ = true ∧ kidsBy (ahead (talkS part) f (⟨5, name, peer, many, sort⟩ :: st)) many.toNat [] (all.drop (pos + 1)) = some r := by
    split at ha
    · rename_i h; exact ⟨h, ha⟩
    · cases ha
  have hstw : StW (⟨5, name, peer, many, sort⟩ :: st) := fun x hx h2 => by
    rcases List.mem_cons.1 hx with e | e
    · rw [e] at h2; simp at h2
    · exact hst x e h2
  have hsz := talk_sz hts
  have hm14 : 1 ≤ many.toNat ∧ many.toNat ≤ 4 ∧ many = (many.toNat : Int) := by simp only [talkS, manyB, Bool.and_eq_true, decide_eq_true_eq] at hts; omega
  have hz2 : peer.size ≤ 20 := by simp only [talkS, Bool.and_eq_true] at hts; exact word20 hts.1.1.1
  have hz1 : name.size ≤ 20 := by
    simp only [talkS, Bool.and_eq_true] at hts
    cases part
    · simp at hts <;> first | exact word20 hts.2.1 | exact word20 hts.2.1.2
    · simp at hts <;> (
        have h0 : name.data.toList = [] := by rw [← Go.ByteArray.toList_eq]; simp [hts]
        have h3 : name.size = name.data.toList.length := rfl
        rw [h3, h0]; simp)
  obtain ⟨e1, s1, n1⟩ := kids_text (fun l r => ahead_text part f _ l r hstw) _ _ _ _ hk
  obtain ⟨m, hmm⟩ : ∃ m, many.toNat = m := ⟨_, rfl⟩
  rw [hmm] at hm14 s1 hk
  obtain ⟨hm1, hm4, hmI⟩ := hm14
  subst hmI
  obtain ⟨pre, hpre⟩ : ∃ pre, talkT ⟨5, name, peer, m, sort⟩ ++ ba [123] = pre := ⟨_, rfl⟩
  have hprez : pre.size ≤ 42 := by rw [← hpre, sz_app, sz_ba]; simp only [List.length_cons, List.length_nil]; have : (talkT ⟨5, name, peer, m, sort⟩).size ≤ 41 := hsz; omega
  have HPRE := hide hpre
  have HST := hide hstw
  have HK := hide hk
  have HS1 : Hid (sumSz (casesF (textF f) m (all.drop (pos + 1))).1 ≤ 1720) := hide (by have h := s1; rw [List.length_drop] at h; omega)
  have HRE : Hid ((textF (f + 1) (⟨5, name, peer, m, sort⟩ :: all.drop (pos + 1))).1 = pre ++ joinC (casesF (textF f) m (all.drop (pos + 1))).1 ++ ba [125]) := hide (by rw [← HPRE.out]; rfl)
  obtain ⟨tot, htot⟩ : ∃ tot, (casesF (textF f) m (all.drop (pos + 1))).1 = tot := ⟨_, rfl⟩
  have HTOT := hide htot
  clear hrow hn hdrop ha hts hstw hsz hst hlen e1 s1 n1 hmm hpre hk htot ih
  go_enter Try.func84, Try.ntmps84
  go_wp2_with fail
  go_loopw [1, 7, 10] (fun av tv kv wr => ∃ (k p : Nat) (acc ls : List ByteArray), k ≤ m ∧ kv = .int .i64 k ∧ av = .int .i64 p ∧ p ≤ all.length ∧ tv = .string (pre ++ joinC acc) ∧ acc.length = k ∧ kidsBy (ahead (talkS part) f (⟨5, name, peer, m, sort⟩ :: st)) (m - k) ls (all.drop p) = some r ∧ acc ++ (casesF (textF f) (m - k) (all.drop p)).1 = tot ∧ Below (w.heap.size + 1) (w.alloc (.cells #[.int .i64 5, .string name, .string peer, .int .i64 (m : Int), .int .i64 sort] 87)) wr)
    (fun _ _ kv _ => m - (intOf kv).toNat)
  case atStart =>
    refine ⟨0, pos + 1, [], [], Nat.zero_le _, rfl, by go_num, by omega, ?_, rfl, HK.out, HTOT.out, Below.refl _ _⟩
    congr 1
    rw [← HPRE.out]
    apply ba_ext
    simp [talkT, joinC, ba]
  case round =>
    obtain ⟨k, p, acc, ls, hk, rfl, rfl, hp, rfl, hacc, hkid, htx, hbel⟩ := hrel
    have HACC := hide hacc
    have HKID := hide hkid
    have HT := hide htx
    have HBEL := hide hbel
    have hszr : w.heap.size + 1 ≤ wr.heap.size := by have := hbel.size; simpa using this
    have HW : Hid (Below w.heap.size w wr) := hide ((alloc1 _ _).trans (hbel.mono (by omega)))
    have hbox : wr.cell? ⟨w.heap.size, 3, none⟩ = some (.int .i64 (m : Int)) := (hbel.cell (p := ⟨w.heap.size, 3, none⟩) (by simp)).trans (by simp)
    have hjs : (joinC acc).size ≤ 1720 := by
      have h1 := joinC_sz acc
      have h2 := HS1.out
      rw [HTOT.out, ← htx] at h2
      have h3 : sumSz (acc ++ (casesF (textF f) (m - k) (all.drop p)).1) = sumSz acc + sumSz (casesF (textF f) (m - k) (all.drop p)).1 := by simp [sumSz]
      omega
    obtain ⟨tc, htc⟩ : ∃ tc, pre ++ joinC acc = tc := ⟨_, rfl⟩
    have htcz : tc.size ≤ 1762 := by rw [← htc, sz_app]; omega
    rw [htc]
    have HTC := hide htc
    clear hacc hkid htx hbel htc hjs
    by_cases hlt : k < m
    · obtain ⟨c, l1, r1, hcl, hcb, hg1, hk1⟩ := kids_inv hlt HKID.out
      have hpl2 : p < all.length := by
        rcases Nat.lt_or_ge p all.length with h | h
        · exact h
        · rw [List.drop_of_length_le h] at hcl; cases hcl
      rw [drop_cons hpl2] at hcl
      injection hcl with hc0 hl0
      have hnode := (HROW.out.get p hpl2).carry hbw HW.out
      rw [hc0] at hnode
      have HND := hide hnode
      have HCB := hide hcb
      have HG1 := hide hg1
      have HK1 := hide hk1
      have hbw2 : b < wr.heap.size := Nat.lt_of_lt_of_le hbw HW.out.size
      have hcz : c.name.size ≤ 20 := by simp only [caseB, Bool.and_eq_true] at hcb; exact word20 hcb.1.2
      have hso : 0 ≤ c.sort ∧ c.sort ≤ 2 := by simp only [caseB, sortB, Bool.and_eq_true, decide_eq_true_eq] at hcb; exact hcb.2
      obtain ⟨e1, s1⟩ := ahead_text part f _ l1 r1 HST.out hg1
      have HTS := hide (cases_step (tf := textF f) (c := c) (l1 := l1) hlt)
      have HDR := hide (show all.drop p = c :: l1 by rw [drop_cons hpl2, hc0, hl0])
      subst hl0
      obtain ⟨t1, ht1⟩ : ∃ t1, (textF f (all.drop (p + 1))).1 = t1 := ⟨_, rfl⟩
      rw [ht1] at s1
      have htz : t1.size ≤ 1720 := by rw [List.length_drop] at s1; omega
      have HT1 := hide ht1
      have HE1 := hide e1
      obtain ⟨sv, hsv⟩ : ∃ sv, sortT c.sort = sv := ⟨_, rfl⟩
      have hsvz : sv.size ≤ 4 := by rw [← hsv]; exact sort_sz _
      have HSV := hide hsv
      have HCT : Hid (caseT c t1 = c.name ++ ba [40] ++ sv ++ ba [41, 46] ++ t1) := hide (by rw [← hsv]; rfl)
      have HPOS := hide (pos_of (ahead_suffix (talkS part) f _ (all.drop (p + 1)) r1 hg1))
      obtain ⟨p2, hp2⟩ : ∃ p2, all.length - r1.length = p2 := ⟨_, rfl⟩
      have HP2 := hide hp2
      have HSO := hide hso
      clear hcb hg1 hk1 hc0 hnode e1 s1 ht1 hsv hp2 hso
      rcases Nat.eq_zero_or_pos k with hk0 | hk0
      · subst hk0
        have HA0 : Hid (acc = []) := hide (List.length_eq_zero_iff.1 HACC.out)
        go_wp2_with (go_at_call 84; refine (HI.out (⟨5, name, peer, m, sort⟩ :: st) all r1 (p + 1) _ _ _ (by have := HL.out; simp; omega) HST.out (by omega) (by omega) h40 HG1.out (HX.out.carry HW.out)).mono ?_; rintro e w1 ⟨rfl, hb1⟩; rw [HT1.out, HP2.out]; have HN1 := hide (HND.out.carry hbw2 hb1); obtain ⟨d0, d1, d2, d3, d4⟩ := HND.out.carry hbw2 hb1; have HB1 := hide hb1; have hz1 := hb1.size; have hbw1 : b < w1.heap.size := Nat.lt_of_lt_of_le hbw2 hz1; clear hb1 d0 d2 d3)
        have q1 : ¬ 9223372036854775807 < tc.size + c.name.size := by omega
        have q2a : ¬ 9223372036854775807 ≤ tc.size + c.name.size := by omega
        have q2b : ¬ 9223372036854775807 < tc.size + c.name.size + 1 := by omega
        have q2c : ¬ 9223372036854775806 < tc.size + c.name.size := by omega
        have q3 : ¬ 9223372036854775807 < tc.size + c.name.size + 1 + sv.size := by omega
        have q4 : ¬ 9223372036854775807 < tc.size + c.name.size + 1 + sv.size + 2 := by omega
        have q4b : ¬ 9223372036854775805 < tc.size + c.name.size + 1 + sv.size := by omega
        have q5 : ¬ 9223372036854775807 < tc.size + c.name.size + 1 + sv.size + 2 + t1.size := by omega
        go_region_with (go_at_call 85; refine (s_sortText c.sort _ HSO.out.1 HSO.out.2).mono ?_; rintro e w2 ⟨rfl, hb2⟩; rw [HSV.out]; have HN2 : Hid (NodeAt w2 b (o + p * 5) c) := hide (NodeAt.carry (w := w1.drew) (B := w1.heap.size) HN1.out hbw1 hb2); obtain ⟨f0, f1, f2, f3, f4⟩ := HN2.out; have HB2 : Hid (Below w1.heap.size w1 w2) := hide (Below.trans (Below.refl _ _).drew hb2); clear hb2 f0 f2 f3)
        go_wp2_with fail
        all_goals
          go_roundw
          case rel =>
            have hpos := HPOS.out
            rw [HP2.out] at hpos
            refine ⟨0 + 1, p2, acc ++ [caseT c t1], ls ++ [c.name], by omega, by go_num, rfl, by have := HP2.out; omega, ?_, by have := HACC.out; rw [List.length_append]; simp only [List.length_cons, List.length_nil]; omega, by rw [← hpos]; exact HK1.out, ?_, HBEL.out.trans ((HB1.out.mono hszr).trans (HB2.out.mono (Nat.le_trans hszr hz1)))⟩
            · congr 1
              rw [HCT.out, ← HTC.out]
              rw [HA0.out]
              apply ba_ext
              simp [joinC, ba]
            · rw [← HT.out, HDR.out, HTS.out, HT1.out, HE1.out, ← hpos]; simp
          case measure => simp [intOf]; omega
      · have HA1 : Hid (acc ≠ []) := hide (fun h => by have := HACC.out; rw [h] at this; simp at this; omega)
        have hkI : (0 : Int) < (k : Int) := by omega
        go_wp2_with (go_at_call 84; refine (HI.out (⟨5, name, peer, m, sort⟩ :: st) all r1 (p + 1) _ _ _ (by have := HL.out; simp; omega) HST.out (by omega) (by omega) h40 HG1.out (HX.out.carry HW.out)).mono ?_; rintro e w1 ⟨rfl, hb1⟩; rw [HT1.out, HP2.out]; have HN1 := hide (HND.out.carry hbw2 hb1); obtain ⟨d0, d1, d2, d3, d4⟩ := HND.out.carry hbw2 hb1; have HB1 := hide hb1; have hz1 := hb1.size; have hbw1 : b < w1.heap.size := Nat.lt_of_lt_of_le hbw2 hz1; clear hb1 d0 d2 d3)
        have q1 : ¬ 9223372036854775807 < tc.size + 1 + c.name.size := by omega
        have q2a : ¬ 9223372036854775807 ≤ tc.size + 1 + c.name.size := by omega
        have q2b : ¬ 9223372036854775807 < tc.size + 1 + c.name.size + 1 := by omega
        have q2c : ¬ 9223372036854775806 < tc.size + 1 + c.name.size := by omega
        have q3 : ¬ 9223372036854775807 < tc.size + 1 + c.name.size + 1 + sv.size := by omega
        have q4 : ¬ 9223372036854775807 < tc.size + 1 + c.name.size + 1 + sv.size + 2 := by omega
        have q4b : ¬ 9223372036854775805 < tc.size + 1 + c.name.size + 1 + sv.size := by omega
        have q5 : ¬ 9223372036854775807 < tc.size + 1 + c.name.size + 1 + sv.size + 2 + t1.size := by omega
        go_region_with (go_at_call 85; refine (s_sortText c.sort _ HSO.out.1 HSO.out.2).mono ?_; rintro e w2 ⟨rfl, hb2⟩; rw [HSV.out]; have HN2 : Hid (NodeAt w2 b (o + p * 5) c) := hide (NodeAt.carry (w := w1.drew) (B := w1.heap.size) HN1.out hbw1 hb2); obtain ⟨f0, f1, f2, f3, f4⟩ := HN2.out; have HB2 : Hid (Below w1.heap.size w1 w2) := hide (Below.trans (Below.refl _ _).drew hb2); clear hb2 f0 f2 f3)
        go_wp2_with fail
        all_goals
          go_roundw
          case rel =>
            have hpos := HPOS.out
            rw [HP2.out] at hpos
            refine ⟨k + 1, p2, acc ++ [caseT c t1], ls ++ [c.name], by omega, by go_num, rfl, by have := HP2.out; omega, ?_, by have := HACC.out; rw [List.length_append]; simp only [List.length_cons, List.length_nil]; omega, by rw [← hpos]; exact HK1.out, ?_, HBEL.out.trans ((HB1.out.mono hszr).trans (HB2.out.mono (Nat.le_trans hszr hz1)))⟩
            · congr 1
              rw [HCT.out, ← HTC.out]
              rw [joinC_snoc HA1.out]
              apply ba_ext
              simp [ba]
            · rw [← HT.out, HDR.out, HTS.out, HT1.out, HE1.out, ← hpos]; simp
          case measure => simp [intOf]; omega
    · have hkm : k = m := by omega
      have HTOT2 : Hid (acc = tot) := hide (by have := HT.out; rw [hkm, Nat.sub_self] at this; simpa [casesF] using this)
      have HDR : Hid (all.drop p = r) := hide (by have := HKID.out; rw [hkm, Nat.sub_self] at this; simpa [kidsBy] using this)
      have HPL : Hid (p = all.length - r.length) := hide (by have h := congrArg List.length HDR.out; rw [List.length_drop] at h; omega)
      have hkI : ¬ (k : Int) < (m : Int) := by omega
      clear hkm
      go_wp2_with fail
      go_ret2
      refine ⟨?_, HW.out⟩
      rw [HRE.out, HTOT.out, ← HTOT2.out, HTC.out, ← HPL.out]; rfl
end Go.Proofs.Ytlbcnmcfljaijaa
namespace Go.Proofs.Ytlbcnmcfljaijaa
open Go.RowKit

set_option maxRecDepth 100000 in
set_option maxHeartbeats 4000000 in
theorem stext6 (part : Bool) (f : Nat) (ih : STextCalls part f) (st all r : List Nd) (pos : Nat) (v : Value) (w : World) (hlen : st.length + (f + 1) = 10) (hst : StW st) (hpl : pos < all.length) (h40 : all.length ≤ 40)
    (many sort : Int) (name peer : ByteArray) (hn : all[pos] = ⟨6, name, peer, many, sort⟩) (ha : ahead (talkS part) (f + 1) st (all.drop pos) = some r) (hx : ArrAt w v all) :
    Calls Try.prog 84 #[v, .int .i64 pos] w fun e w' => e = .returned (.tuple #[.string (textF (f + 1) (all.drop pos)).1, .int .i64 ((all.length - r.length : Nat) : Int)]) ∧ Below w.heap.size w w' := by
  have HX := hide hx
  have HI := hide ih
  have HL := hide hlen
  obtain ⟨b, o, cap, rfl, hc, hm, hrow, hbw⟩ := hx
  have hnode := hrow.get pos hpl
  have HROW := hide hrow
  have hdrop : all.drop pos = ⟨6, name, peer, many, sort⟩ :: all.drop (pos + 1) := by rw [← hn]; exact drop_cons hpl
  rw [hn] at hnode
  obtain ⟨c0, c1, c2, c3, c4⟩ := hnode
  dsimp only at c0 c1 c2 c3 c4
  rw [hdrop] at ha ⊢
  rw [ahead_t (by simp) (by simp) (by simp)] at ha
  obtain ⟨hts, hk⟩ : talkS part ⟨6, name, peer, many, sort⟩ = true ∧ kidsBy (ahead (talkS part) f (⟨6, name, peer, many, sort⟩ :: st)) many.toNat [] (all.drop (pos + 1)) = some r := by
    split at ha
    · rename_i h; exact ⟨h, ha⟩
    · cases ha
  have hstw : StW (⟨6, name, peer, many, sort⟩ :: st) := fun x hx h2 => by
    rcases List.mem_cons.1 hx with e | e
    · rw [e] at h2; simp at h2
    · exact hst x e h2
  have hsz := talk_sz hts
  have hm14 : 1 ≤ many.toNat ∧ many.toNat ≤ 4 ∧ many = (many.toNat : Int) := by simp only [talkS, manyB, Bool.and_eq_true, decide_eq_true_eq] at hts; omega
  have hz2 : peer.size ≤ 20 := by simp only [talkS, Bool.and_eq_true] at hts; exact word20 hts.1.1.1
  have hz1 : name.size ≤ 20 := by
    simp only [talkS, Bool.and_eq_true] at hts
    cases part
    · simp at hts <;> first | exact word20 hts.2.1 | exact word20 hts.2.1.2
    · simp at hts <;> (
        have h0 : name.data.toList = [] := by rw [← Go.ByteArray.toList_eq]; simp [hts]
        have h3 : name.size = name.data.toList.length := rfl
        rw [h3, h0]; simp)
  obtain ⟨e1, s1, n1⟩ := kids_text (fun l r => ahead_text part f _ l r hstw) _ _ _ _ hk
  obtain ⟨m, hmm⟩ : ∃ m, many.toNat = m := ⟨_, rfl⟩
  rw [hmm] at hm14 s1 hk
  obtain ⟨hm1, hm4, hmI⟩ := hm14
  subst hmI
  obtain ⟨pre, hpre⟩ : ∃ pre, talkT ⟨6, name, peer, m, sort⟩ ++ ba [123] = pre := ⟨_, rfl⟩
  have hprez : pre.size ≤ 42 := by rw [← hpre, sz_app, sz_ba]; simp only [List.length_cons, List.length_nil]; have : (talkT ⟨6, name, peer, m, sort⟩).size ≤ 41 := hsz; omega
  have HPRE := hide hpre
  have HST := hide hstw
  have HK := hide hk
  have HS1 : Hid (sumSz (casesF (textF f) m (all.drop (pos + 1))).1 ≤ 1720) := hide (by have h := s1; rw [List.length_drop] at h; omega)
  have HRE : Hid ((textF (f + 1) (⟨6, name, peer, m, sort⟩ :: all.drop (pos + 1))).1 = pre ++ joinC (casesF (textF f) m (all.drop (pos + 1))).1 ++ ba [125]) := hide (by rw [← HPRE.out]; rfl)
  obtain ⟨tot, htot⟩ : ∃ tot, (casesF (textF f) m (all.drop (pos + 1))).1 = tot := ⟨_, rfl⟩
  have HTOT := hide htot
  clear hrow hn hdrop ha hts hstw hsz hst hlen e1 s1 n1 hmm hpre hk htot ih
  go_enter Try.func84, Try.ntmps84
  go_wp2_with fail
  go_loopw [1, 7, 10] (fun av tv kv wr => ∃ (k p : Nat) (acc ls : List ByteArray), k ≤ m ∧ kv = .int .i64 k ∧ av = .int .i64 p ∧ p ≤ all.length ∧ tv = .string (pre ++ joinC acc) ∧ acc.length = k ∧ kidsBy (ahead (talkS part) f (⟨6, name, peer, m, sort⟩ :: st)) (m - k) ls (all.drop p) = some r ∧ acc ++ (casesF (textF f) (m - k) (all.drop p)).1 = tot ∧ Below (w.heap.size + 1) (w.alloc (.cells #[.int .i64 6, .string name, .string peer, .int .i64 (m : Int), .int .i64 sort] 87)) wr)
    (fun _ _ kv _ => m - (intOf kv).toNat)
  case atStart =>
    refine ⟨0, pos + 1, [], [], Nat.zero_le _, rfl, by go_num, by omega, ?_, rfl, HK.out, HTOT.out, Below.refl _ _⟩
    congr 1
    rw [← HPRE.out]
    apply ba_ext
    simp [talkT, joinC, ba]
  case round =>
    obtain ⟨k, p, acc, ls, hk, rfl, rfl, hp, rfl, hacc, hkid, htx, hbel⟩ := hrel
    have HACC := hide hacc
    have HKID := hide hkid
    have HT := hide htx
    have HBEL := hide hbel
    have hszr : w.heap.size + 1 ≤ wr.heap.size := by have := hbel.size; simpa using this
    have HW : Hid (Below w.heap.size w wr) := hide ((alloc1 _ _).trans (hbel.mono (by omega)))
    have hbox : wr.cell? ⟨w.heap.size, 3, none⟩ = some (.int .i64 (m : Int)) := (hbel.cell (p := ⟨w.heap.size, 3, none⟩) (by simp)).trans (by simp)
    have hjs : (joinC acc).size ≤ 1720 := by
      have h1 := joinC_sz acc
      have h2 := HS1.out
      rw [HTOT.out, ← htx] at h2
      have h3 : sumSz (acc ++ (casesF (textF f) (m - k) (all.drop p)).1) = sumSz acc + sumSz (casesF (textF f) (m - k) (all.drop p)).1 := by simp [sumSz]
      omega
    obtain ⟨tc, htc⟩ : ∃ tc, pre ++ joinC acc = tc := ⟨_, rfl⟩
    have htcz : tc.size ≤ 1762 := by rw [← htc, sz_app]; omega
    rw [htc]
    have HTC := hide htc
    clear hacc hkid htx hbel htc hjs
    by_cases hlt : k < m
    · obtain ⟨c, l1, r1, hcl, hcb, hg1, hk1⟩ := kids_inv hlt HKID.out
      have hpl2 : p < all.length := by
        rcases Nat.lt_or_ge p all.length with h | h
        · exact h
        · rw [List.drop_of_length_le h] at hcl; cases hcl
      rw [drop_cons hpl2] at hcl
      injection hcl with hc0 hl0
      have hnode := (HROW.out.get p hpl2).carry hbw HW.out
      rw [hc0] at hnode
      have HND := hide hnode
      have HCB := hide hcb
      have HG1 := hide hg1
      have HK1 := hide hk1
      have hbw2 : b < wr.heap.size := Nat.lt_of_lt_of_le hbw HW.out.size
      have hcz : c.name.size ≤ 20 := by simp only [caseB, Bool.and_eq_true] at hcb; exact word20 hcb.1.2
      have hso : 0 ≤ c.sort ∧ c.sort ≤ 2 := by simp only [caseB, sortB, Bool.and_eq_true, decide_eq_true_eq] at hcb; exact hcb.2
      obtain ⟨e1, s1⟩ := ahead_text part f _ l1 r1 HST.out hg1
      have HTS := hide (cases_step (tf := textF f) (c := c) (l1 := l1) hlt)
      have HDR := hide (show all.drop p = c :: l1 by rw [drop_cons hpl2, hc0, hl0])
      subst hl0
      obtain ⟨t1, ht1⟩ : ∃ t1, (textF f (all.drop (p + 1))).1 = t1 := ⟨_, rfl⟩
      rw [ht1] at s1
      have htz : t1.size ≤ 1720 := by rw [List.length_drop] at s1; omega
      have HT1 := hide ht1
      have HE1 := hide e1
      obtain ⟨sv, hsv⟩ : ∃ sv, sortT c.sort = sv := ⟨_, rfl⟩
      have hsvz : sv.size ≤ 4 := by rw [← hsv]; exact sort_sz _
      have HSV := hide hsv
      have HCT : Hid (caseT c t1 = c.name ++ ba [40] ++ sv ++ ba [41, 46] ++ t1) := hide (by rw [← hsv]; rfl)
      have HPOS := hide (pos_of (ahead_suffix (talkS part) f _ (all.drop (p + 1)) r1 hg1))
      obtain ⟨p2, hp2⟩ : ∃ p2, all.length - r1.length = p2 := ⟨_, rfl⟩
      have HP2 := hide hp2
      have HSO := hide hso
      clear hcb hg1 hk1 hc0 hnode e1 s1 ht1 hsv hp2 hso
      rcases Nat.eq_zero_or_pos k with hk0 | hk0
      · subst hk0
        have HA0 : Hid (acc = []) := hide (List.length_eq_zero_iff.1 HACC.out)
        go_wp2_with (go_at_call 84; refine (HI.out (⟨6, name, peer, m, sort⟩ :: st) all r1 (p + 1) _ _ _ (by have := HL.out; simp; omega) HST.out (by omega) (by omega) h40 HG1.out (HX.out.carry HW.out)).mono ?_; rintro e w1 ⟨rfl, hb1⟩; rw [HT1.out, HP2.out]; have HN1 := hide (HND.out.carry hbw2 hb1); obtain ⟨d0, d1, d2, d3, d4⟩ := HND.out.carry hbw2 hb1; have HB1 := hide hb1; have hz1 := hb1.size; have hbw1 : b < w1.heap.size := Nat.lt_of_lt_of_le hbw2 hz1; clear hb1 d0 d2 d3)
        have q1 : ¬ 9223372036854775807 < tc.size + c.name.size := by omega
        have q2a : ¬ 9223372036854775807 ≤ tc.size + c.name.size := by omega
        have q2b : ¬ 9223372036854775807 < tc.size + c.name.size + 1 := by omega
        have q2c : ¬ 9223372036854775806 < tc.size + c.name.size := by omega
        have q3 : ¬ 9223372036854775807 < tc.size + c.name.size + 1 + sv.size := by omega
        have q4 : ¬ 9223372036854775807 < tc.size + c.name.size + 1 + sv.size + 2 := by omega
        have q4b : ¬ 9223372036854775805 < tc.size + c.name.size + 1 + sv.size := by omega
        have q5 : ¬ 9223372036854775807 < tc.size + c.name.size + 1 + sv.size + 2 + t1.size := by omega
        go_region_with (go_at_call 85; refine (s_sortText c.sort _ HSO.out.1 HSO.out.2).mono ?_; rintro e w2 ⟨rfl, hb2⟩; rw [HSV.out]; have HN2 : Hid (NodeAt w2 b (o + p * 5) c) := hide (NodeAt.carry (w := w1.drew) (B := w1.heap.size) HN1.out hbw1 hb2); obtain ⟨f0, f1, f2, f3, f4⟩ := HN2.out; have HB2 : Hid (Below w1.heap.size w1 w2) := hide (Below.trans (Below.refl _ _).drew hb2); clear hb2 f0 f2 f3)
        go_wp2_with fail
        all_goals
          go_roundw
          case rel =>
            have hpos := HPOS.out
            rw [HP2.out] at hpos
            refine ⟨0 + 1, p2, acc ++ [caseT c t1], ls ++ [c.name], by omega, by go_num, rfl, by have := HP2.out; omega, ?_, by have := HACC.out; rw [List.length_append]; simp only [List.length_cons, List.length_nil]; omega, by rw [← hpos]; exact HK1.out, ?_, HBEL.out.trans ((HB1.out.mono hszr).trans (HB2.out.mono (Nat.le_trans hszr hz1)))⟩
            · congr 1
              rw [HCT.out, ← HTC.out]
              rw [HA0.out]
              apply ba_ext
              simp [joinC, ba]
            · rw [← HT.out, HDR.out, HTS.out, HT1.out, HE1.out, ← hpos]; simp
          case measure => simp [intOf]; omega
      · have HA1 : Hid (acc ≠ []) := hide (fun h => by have := HACC.out; rw [h] at this; simp at this; omega)
        have hkI : (0 : Int) < (k : Int) := by omega
        go_wp2_with (go_at_call 84; refine (HI.out (⟨6, name, peer, m, sort⟩ :: st) all r1 (p + 1) _ _ _ (by have := HL.out; simp; omega) HST.out (by omega) (by omega) h40 HG1.out (HX.out.carry HW.out)).mono ?_; rintro e w1 ⟨rfl, hb1⟩; rw [HT1.out, HP2.out]; have HN1 := hide (HND.out.carry hbw2 hb1); obtain ⟨d0, d1, d2, d3, d4⟩ := HND.out.carry hbw2 hb1; have HB1 := hide hb1; have hz1 := hb1.size; have hbw1 : b < w1.heap.size := Nat.lt_of_lt_of_le hbw2 hz1; clear hb1 d0 d2 d3)
        have q1 : ¬ 9223372036854775807 < tc.size + 1 + c.name.size := by omega
        have q2a : ¬ 9223372036854775807 ≤ tc.size + 1 + c.name.size := by omega
        have q2b : ¬ 9223372036854775807 < tc.size + 1 + c.name.size + 1 := by omega
        have q2c : ¬ 9223372036854775806 < tc.size + 1 + c.name.size := by omega
        have q3 : ¬ 9223372036854775807 < tc.size + 1 + c.name.size + 1 + sv.size := by omega
        have q4 : ¬ 9223372036854775807 < tc.size + 1 + c.name.size + 1 + sv.size + 2 := by omega
        have q4b : ¬ 9223372036854775805 < tc.size + 1 + c.name.size + 1 + sv.size := by omega
        have q5 : ¬ 9223372036854775807 < tc.size + 1 + c.name.size + 1 + sv.size + 2 + t1.size := by omega
        go_region_with (go_at_call 85; refine (s_sortText c.sort _ HSO.out.1 HSO.out.2).mono ?_; rintro e w2 ⟨rfl, hb2⟩; rw [HSV.out]; have HN2 : Hid (NodeAt w2 b (o + p * 5) c) := hide (NodeAt.carry (w := w1.drew) (B := w1.heap.size) HN1.out hbw1 hb2); obtain ⟨f0, f1, f2, f3, f4⟩ := HN2.out; have HB2 : Hid (Below w1.heap.size w1 w2) := hide (Below.trans (Below.refl _ _).drew hb2); clear hb2 f0 f2 f3)
        go_wp2_with fail
        all_goals
          go_roundw
          case rel =>
            have hpos := HPOS.out
            rw [HP2.out] at hpos
            refine ⟨k + 1, p2, acc ++ [caseT c t1], ls ++ [c.name], by omega, by go_num, rfl, by have := HP2.out; omega, ?_, by have := HACC.out; rw [List.length_append]; simp only [List.length_cons, List.length_nil]; omega, by rw [← hpos]; exact HK1.out, ?_, HBEL.out.trans ((HB1.out.mono hszr).trans (HB2.out.mono (Nat.le_trans hszr hz1)))⟩
            · congr 1
              rw [HCT.out, ← HTC.out]
              rw [joinC_snoc HA1.out]
              apply ba_ext
              simp [ba]
            · rw [← HT.out, HDR.out, HTS.out, HT1.out, HE1.out, ← hpos]; simp
          case measure => simp [intOf]; omega
    · have hkm : k = m := by omega
      have HTOT2 : Hid (acc = tot) := hide (by have := HT.out; rw [hkm, Nat.sub_self] at this; simpa [casesF] using this)
      have HDR : Hid (all.drop p = r) := hide (by have := HKID.out; rw [hkm, Nat.sub_self] at this; simpa [kidsBy] using this)
      have HPL : Hid (p = all.length - r.length) := hide (by have h := congrArg List.length HDR.out; rw [List.length_drop] at h; omega)
      have hkI : ¬ (k : Int) < (m : Int) := by omega
      clear hkm
      go_wp2_with fail
      go_ret2
      refine ⟨?_, HW.out⟩
      rw [HRE.out, HTOT.out, ← HTOT2.out, HTC.out, ← HPL.out]; rfl
end Go.Proofs.Ytlbcnmcfljaijaa
