/- textAhead, a step: the Node at hand is of this kind. -/
import Derived.Test.YtmjlblbhakppfaaGreatDoorQB20
namespace Go.Proofs.YtmjlblbhakppfaaGreatDoor
open Go.RowKit

set_option maxRecDepth 100000 in
set_option maxHeartbeats 1000000 in
theorem itext5_b (part : Bool) (f : Nat) (hih : ∀ g, f = g + 1 → ITextCalls part g) (st : List Nd) (name peer : ByteArray) (many sort : Int) (l1 r : List Nd) (w : World) (B b o cap : Nat) (hlen : st.length + f = 10) (hst : StW st) (h40 : l1.length + 1 ≤ 40) (ha : ahead (talkS part) f st (⟨5, name, peer, many, sort⟩ :: l1) = some r) (hB : B ≤ w.heap.size) (hbB : b < B) (hc1 : l1.length + 1 ≤ cap) (hc2 : cap ≤ 9223372036854775807 ∧ l1.length < 4294967296) (hcap : cap ≠ 1) (hrow : RowAt w b o (⟨5, name, peer, many, sort⟩ :: l1)) (hsw : SortW w) :
    Calls Tryz.prog 38 #[.slice (some ⟨b, o, none⟩) (l1.length + 1) cap] w fun e w' => (∃ v', e = .returned (.tuple #[.string (textF f (⟨5, name, peer, many, sort⟩ :: l1)).1, v']) ∧ SlAt w' B v' r) ∧ Below w.heap.size w w' := by
  have HR := hide hrow
  have HL := hide hlen
  have HST := hide hst
  have HA := hide ha
  have HB := hide hB
  have HBB := hide hbB
  have HSW := hide hsw
  have HSX : Hid (SlAt w B (.slice (some ⟨b, o + 5, none⟩) l1.length (cap - 1)) l1) := hide (SlAt.tail hbB hrow (by simp; omega) hc2 _ (fun _ => rfl))
  obtain ⟨⟨c0, c1, c2, c3, c4⟩, -⟩ := hrow
  dsimp only at c0 c1 c2 c3 c4
  have hbw : b < w.heap.size := World.block_lt_of_cell? w _ c0
  clear hlen hst ha hB hbB hsw
  obtain ⟨g, hg, hgo, hts, hstw⟩ : ∃ g, f = g + 1 ∧ kidsBy (ahead (talkS part) g (⟨5, name, peer, many, sort⟩ :: st)) many.toNat [] l1 = some r ∧ talkS part ⟨5, name, peer, many, sort⟩ = true ∧ StW (⟨5, name, peer, many, sort⟩ :: st) := by
    have h := HA.out
    cases f with
    | zero => rw [ahead_t0 (by simp) (by simp)] at h; cases h
    | succ g =>
      rw [ahead_t (by simp) (by simp) (by simp)] at h
      split at h
      · rename_i hv
        exact ⟨g, rfl, h, hv, fun x hx h2 => by
          rcases List.mem_cons.1 hx with e | e
          · rw [e] at h2; simp at h2
          · exact HST.out x e h2⟩
      · cases h
  subst hg
  have HIH := hide (hih g rfl)
  have HGO := hide hgo
  have HSTW := hide hstw
  have hsz := talk_sz hts
  have hm14 : 1 ≤ many.toNat ∧ many.toNat ≤ 4 ∧ many = (many.toNat : Int) := by simp only [talkS, manyB, Bool.and_eq_true, decide_eq_true_eq] at hts; omega
  have hpz : peer.size ≤ 20 := by simp only [talkS, Bool.and_eq_true] at hts; exact word20 hts.1.1.1
  have hnz : name.size ≤ 20 := by
    simp only [talkS, Bool.and_eq_true] at hts
    cases part
    · simp at hts <;> first | exact word20 hts.2.1 | exact word20 hts.2.1.2
    · simp at hts <;> (
        have h0 : name.data.toList = [] := by rw [← Go.ByteArray.toList_eq]; simp [hts]
        have h3 : name.size = name.data.toList.length := rfl
        rw [h3, h0]; simp)
  obtain ⟨e1, s1, n1⟩ := kids_text (fun l r => ahead_text part g _ l r hstw) _ _ _ _ hgo
  obtain ⟨m, hmm⟩ : ∃ m, many.toNat = m := ⟨_, rfl⟩
  rw [hmm] at hm14 s1
  obtain ⟨hm1, hm4, hmI⟩ := hm14
  have HMM := hide hmm
  subst hmI
  obtain ⟨t1, ht1⟩ : ∃ t1, joinC (casesF (textF g) m l1).1 = t1 := ⟨_, rfl⟩
  have HT1 := hide ht1
  have htz : t1.size ≤ 1720 := by rw [← ht1]; have := joinC_sz (casesF (textF g) m l1).1; omega
  have HGO2 : Hid (kidsBy (ahead (talkS part) g (⟨5, name, peer, m, sort⟩ :: st)) m [] l1 = some r) := hide (by have := HGO.out; rwa [HMM.out] at this)
  obtain ⟨tt, htt⟩ : ∃ tt, talkT ⟨5, name, peer, m, sort⟩ = tt := ⟨_, rfl⟩
  have HTT := hide htt
  have httz : tt.size ≤ 41 := by rw [← htt]; exact hsz
  have HRE : Hid ((textF (g + 1) (⟨5, name, peer, m, sort⟩ :: l1)).1 = tt ++ ba [123] ++ t1 ++ ba [125]) := hide (by rw [← HTT.out, ← HT1.out]; rfl)
  clear hih hgo hstw e1 s1 n1 ht1 hts htt hmm hsz HGO HA
  go_enter Tryz.func38, Tryz.ntmps38
  go_wp2_with fail
  go_region
  go_wp2_with (first
    | (go_at_call 67; refine (cases_text part g HIH.out (⟨5, name, peer, m, sort⟩ :: st) l1 r m _ _ B (by have := HL.out; simp; omega) HSTW.out (by omega) ⟨hm1, hm4⟩ HGO2.out (Nat.le_trans HB.out (Below.size (B := w.heap.size) (by repeat (first | exact alloc1 _ _ | exact Below.refl _ _ | refine Below.drew ?_)))) (HSX.out.carry (Below.mono (by repeat (first | exact alloc1 _ _ | exact Below.refl _ _ | refine Below.drew ?_)) HB.out)) (HSW.out.carry (by repeat (first | exact alloc1 _ _ | exact Below.refl _ _ | refine Below.drew ?_)))).mono ?_; rintro e w1 ⟨⟨v1, rfl, hs1⟩, hb1⟩; rw [HT1.out]; obtain ⟨d0, d1, d2, d3, d4⟩ := NodeAt.carry (B := _) (boxed w ⟨5, name, peer, m, sort⟩ 45) (by simp) hb1; dsimp only at d0 d1 d2 d3 d4; have hs1' : w.heap.size < w1.heap.size := (by have := hb1.size; simp at this; omega); have HS1 := hide hs1; obtain ⟨ao2, cap2, rfl, hs2⟩ := hs1; have HB1 : Hid (Below w.heap.size w w1) := hide (Below.trans (a := w) (b := _) (by repeat (first | exact alloc1 _ _ | exact Below.refl _ _ | refine Below.drew ?_)) (hb1.mono (by simp))); clear hb1 hs2)
    | (go_at_call 68; refine (i_talkText ⟨5, name, peer, m, sort⟩ _ (by simp only; omega) (by simp only; omega)).mono ?_; rintro e w2 ⟨rfl, hb2⟩; rw [HTT.out]; have HB2 := hide hb2; clear hb2)
    | (go_at_call 66; refine (join4 tt (ba [123]) t1 (ba [125]) _ _ (by first | rfl | simp) (by rw [sz_ba, sz_ba]; simp only [List.length_cons, List.length_nil]; omega)).mono ?_; rintro e w3 ⟨rfl, hb3⟩; have HB3 := hide hb3; clear hb3))
  go_ret2
  refine ⟨⟨_, by rw [HRE.out]; rfl, (HS1.out.carry (HB2.out.mono (Nat.le_trans HB.out HB1.out.size))).carry (HB3.out.mono (Nat.le_trans HB.out (Nat.le_trans HB1.out.size HB2.out.size)))⟩, (HB1.out.trans (HB2.out.mono HB1.out.size)).trans (HB3.out.mono (Nat.le_trans HB1.out.size HB2.out.size))⟩

set_option maxRecDepth 100000 in
set_option maxHeartbeats 1000000 in
theorem itext5_a (part : Bool) (f : Nat) (hih : ∀ g, f = g + 1 → ITextCalls part g) (st : List Nd) (name peer : ByteArray) (many sort : Int) (l1 r : List Nd) (w : World) (B b o cap : Nat) (hlen : st.length + f = 10) (hst : StW st) (h40 : l1.length + 1 ≤ 40) (ha : ahead (talkS part) f st (⟨5, name, peer, many, sort⟩ :: l1) = some r) (hB : B ≤ w.heap.size) (hbB : b < B) (hc1 : l1.length + 1 ≤ cap) (hc2 : cap ≤ 9223372036854775807 ∧ l1.length < 4294967296) (hcap : cap = 1) (hrow : RowAt w b o (⟨5, name, peer, many, sort⟩ :: l1)) (hsw : SortW w) :
    Calls Tryz.prog 38 #[.slice (some ⟨b, o, none⟩) (l1.length + 1) cap] w fun e w' => (∃ v', e = .returned (.tuple #[.string (textF f (⟨5, name, peer, many, sort⟩ :: l1)).1, v']) ∧ SlAt w' B v' r) ∧ Below w.heap.size w w' := by
  have HR := hide hrow
  have HL := hide hlen
  have HST := hide hst
  have HA := hide ha
  have HB := hide hB
  have HBB := hide hbB
  have HSW := hide hsw
  have HSX : Hid (SlAt w B (.slice (some ⟨b, o, none⟩) 0 0) l1) := hide (by rw [List.length_eq_zero_iff.1 (show l1.length = 0 by omega)]; exact ⟨_, _, rfl, Nat.le_refl _, by simp, fun h => absurd rfl h⟩)
  subst hcap
  obtain ⟨⟨c0, c1, c2, c3, c4⟩, -⟩ := hrow
  dsimp only at c0 c1 c2 c3 c4
  have hbw : b < w.heap.size := World.block_lt_of_cell? w _ c0
  clear hlen hst ha hB hbB hsw
  obtain ⟨g, hg, hgo, hts, hstw⟩ : ∃ g, f = g + 1 ∧ kidsBy (ahead (talkS part) g (⟨5, name, peer, many, sort⟩ :: st)) many.toNat [] l1 = some r ∧ talkS part ⟨5, name, peer, many, sort⟩ = true ∧ StW (⟨5, name, peer, many, sort⟩ :: st) := by
    have h := HA.out
    cases f with
    | zero => rw [ahead_t0 (by simp) (by simp)] at h; cases h
    | succ g =>
      rw [ahead_t (by simp) (by simp) (by simp)] at h
      split at h
      · rename_i hv
        exact ⟨g, rfl, h, hv, fun x hx h2 => by
          rcases List.mem_cons.1 hx with e | e
          · rw [e] at h2; simp at h2
          · exact HST.out x e h2⟩
      · cases h
  subst hg
  have HIH := hide (hih g rfl)
  have HGO := hide hgo
  have HSTW := hide hstw
  have hsz := talk_sz hts
  have hm14 : 1 ≤ many.toNat ∧ many.toNat ≤ 4 ∧ many = (many.toNat : Int) := by simp only [talkS, manyB, Bool.and_eq_true, decide_eq_true_eq] at hts; omega
  have hpz : peer.size ≤ 20 := by simp only [talkS, Bool.and_eq_true] at hts; exact word20 hts.1.1.1
  have hnz : name.size ≤ 20 := by
    simp only [talkS, Bool.and_eq_true] at hts
    cases part
    · simp at hts <;> first | exact word20 hts.2.1 | exact word20 hts.2.1.2
    · simp at hts <;> (
        have h0 : name.data.toList = [] := by rw [← Go.ByteArray.toList_eq]; simp [hts]
        have h3 : name.size = name.data.toList.length := rfl
        rw [h3, h0]; simp)
  obtain ⟨e1, s1, n1⟩ := kids_text (fun l r => ahead_text part g _ l r hstw) _ _ _ _ hgo
  obtain ⟨m, hmm⟩ : ∃ m, many.toNat = m := ⟨_, rfl⟩
  rw [hmm] at hm14 s1
  obtain ⟨hm1, hm4, hmI⟩ := hm14
  have HMM := hide hmm
  subst hmI
  obtain ⟨t1, ht1⟩ : ∃ t1, joinC (casesF (textF g) m l1).1 = t1 := ⟨_, rfl⟩
  have HT1 := hide ht1
  have htz : t1.size ≤ 1720 := by rw [← ht1]; have := joinC_sz (casesF (textF g) m l1).1; omega
  have HGO2 : Hid (kidsBy (ahead (talkS part) g (⟨5, name, peer, m, sort⟩ :: st)) m [] l1 = some r) := hide (by have := HGO.out; rwa [HMM.out] at this)
  obtain ⟨tt, htt⟩ : ∃ tt, talkT ⟨5, name, peer, m, sort⟩ = tt := ⟨_, rfl⟩
  have HTT := hide htt
  have httz : tt.size ≤ 41 := by rw [← htt]; exact hsz
  have HRE : Hid ((textF (g + 1) (⟨5, name, peer, m, sort⟩ :: l1)).1 = tt ++ ba [123] ++ t1 ++ ba [125]) := hide (by rw [← HTT.out, ← HT1.out]; rfl)
  clear hih hgo hstw e1 s1 n1 ht1 hts htt hmm hsz HGO HA
  go_enter Tryz.func38, Tryz.ntmps38
  go_wp2_with fail
  go_region
  go_wp2_with (first
    | (go_at_call 67; refine (cases_text part g HIH.out (⟨5, name, peer, m, sort⟩ :: st) l1 r m _ _ B (by have := HL.out; simp; omega) HSTW.out (by omega) ⟨hm1, hm4⟩ HGO2.out (Nat.le_trans HB.out (Below.size (B := w.heap.size) (by repeat (first | exact alloc1 _ _ | exact Below.refl _ _ | refine Below.drew ?_)))) (HSX.out.carry (Below.mono (by repeat (first | exact alloc1 _ _ | exact Below.refl _ _ | refine Below.drew ?_)) HB.out)) (HSW.out.carry (by repeat (first | exact alloc1 _ _ | exact Below.refl _ _ | refine Below.drew ?_)))).mono ?_; rintro e w1 ⟨⟨v1, rfl, hs1⟩, hb1⟩; rw [HT1.out]; obtain ⟨d0, d1, d2, d3, d4⟩ := NodeAt.carry (B := _) (boxed w ⟨5, name, peer, m, sort⟩ 45) (by simp) hb1; dsimp only at d0 d1 d2 d3 d4; have hs1' : w.heap.size < w1.heap.size := (by have := hb1.size; simp at this; omega); have HS1 := hide hs1; obtain ⟨ao2, cap2, rfl, hs2⟩ := hs1; have HB1 : Hid (Below w.heap.size w w1) := hide (Below.trans (a := w) (b := _) (by repeat (first | exact alloc1 _ _ | exact Below.refl _ _ | refine Below.drew ?_)) (hb1.mono (by simp))); clear hb1 hs2)
    | (go_at_call 68; refine (i_talkText ⟨5, name, peer, m, sort⟩ _ (by simp only; omega) (by simp only; omega)).mono ?_; rintro e w2 ⟨rfl, hb2⟩; rw [HTT.out]; have HB2 := hide hb2; clear hb2)
    | (go_at_call 66; refine (join4 tt (ba [123]) t1 (ba [125]) _ _ (by first | rfl | simp) (by rw [sz_ba, sz_ba]; simp only [List.length_cons, List.length_nil]; omega)).mono ?_; rintro e w3 ⟨rfl, hb3⟩; have HB3 := hide hb3; clear hb3))
  go_ret2
  refine ⟨⟨_, by rw [HRE.out]; rfl, (HS1.out.carry (HB2.out.mono (Nat.le_trans HB.out HB1.out.size))).carry (HB3.out.mono (Nat.le_trans HB.out (Nat.le_trans HB1.out.size HB2.out.size)))⟩, (HB1.out.trans (HB2.out.mono HB1.out.size)).trans (HB3.out.mono (Nat.le_trans HB1.out.size HB2.out.size))⟩
end Go.Proofs.YtmjlblbhakppfaaGreatDoor
/- textAhead, a step: the Node at hand is of this kind. -/
namespace Go.Proofs.YtmjlblbhakppfaaGreatDoor
open Go.RowKit

set_option maxRecDepth 100000 in
set_option maxHeartbeats 1000000 in
theorem itext6_b (part : Bool) (f : Nat) (hih : ∀ g, f = g + 1 → ITextCalls part g) (st : List Nd) (name peer : ByteArray) (many sort : Int) (l1 r : List Nd) (w : World) (B b o cap : Nat) (hlen : st.length + f = 10) (hst : StW st) (h40 : l1.length + 1 ≤ 40) (ha : ahead (talkS part) f st (⟨6, name, peer, many, sort⟩ :: l1) = some r) (hB : B ≤ w.heap.size) (hbB : b < B) (hc1 : l1.length + 1 ≤ cap) (hc2 : cap ≤ 9223372036854775807 ∧ l1.length < 4294967296) (hcap : cap ≠ 1) (hrow : RowAt w b o (⟨6, name, peer, many, sort⟩ :: l1)) (hsw : SortW w) :
    Calls Tryz.prog 38 #[.slice (some ⟨b, o, none⟩) (l1.length + 1) cap] w fun e w' => (∃ v', e = .returned (.tuple #[.string (textF f (⟨6, name, peer, many, sort⟩ :: l1)).1, v']) ∧ SlAt w' B v' r) ∧ Below w.heap.size w w' := by
  have HR := hide hrow
  have HL := hide hlen
  have HST := hide hst
  have HA := hide ha
  have HB := hide hB
  have HBB := hide hbB
  have HSW := hide hsw
  have HSX : Hid (SlAt w B (.slice (some ⟨b, o + 5, none⟩) l1.length (cap - 1)) l1) := hide (SlAt.tail hbB hrow (by simp; omega) hc2 _ (fun _ => rfl))
  obtain ⟨⟨c0, c1, c2, c3, c4⟩, -⟩ := hrow
  dsimp only at c0 c1 c2 c3 c4
  have hbw : b < w.heap.size := World.block_lt_of_cell? w _ c0
  clear hlen hst ha hB hbB hsw
  obtain ⟨g, hg, hgo, hts, hstw⟩ : ∃ g, f = g + 1 ∧ kidsBy (ahead (talkS part) g (⟨6, name, peer, many, sort⟩ :: st)) many.toNat [] l1 = some r ∧ talkS part ⟨6, name, peer, many, sort⟩ = true ∧ StW (⟨6, name, peer, many, sort⟩ :: st) := by
    have h := HA.out
    cases f with
    | zero => rw [ahead_t0 (by simp) (by simp)] at h; cases h
    | succ g =>
      rw [ahead_t (by simp) (by simp) (by simp)] at h
      split at h
      · rename_i hv
        exact ⟨g, rfl, h, hv, fun x hx h2 => by
          rcases List.mem_cons.1 hx with e | e
          · rw [e] at h2; simp at h2
          · exact HST.out x e h2⟩
      · cases h
  subst hg
  have HIH := hide (hih g rfl)
  have HGO := hide hgo
  have HSTW := hide hstw
  have hsz := talk_sz hts
  have hm14 : 1 ≤ many.toNat ∧ many.toNat ≤ 4 ∧ many = (many.toNat : Int) := by simp only [talkS, manyB, Bool.and_eq_true, decide_eq_true_eq] at hts; omega
  have hpz : peer.size ≤ 20 := by simp only [talkS, Bool.and_eq_true] at hts; exact word20 hts.1.1.1
  have hnz : name.size ≤ 20 := by
    simp only [talkS, Bool.and_eq_true] at hts
    cases part
    · simp at hts <;> first | exact word20 hts.2.1 | exact word20 hts.2.1.2
    · simp at hts <;> (
        have h0 : name.data.toList = [] := by rw [← Go.ByteArray.toList_eq]; simp [hts]
        have h3 : name.size = name.data.toList.length := rfl
        rw [h3, h0]; simp)
  obtain ⟨e1, s1, n1⟩ := kids_text (fun l r => ahead_text part g _ l r hstw) _ _ _ _ hgo
  obtain ⟨m, hmm⟩ : ∃ m, many.toNat = m := ⟨_, rfl⟩
  rw [hmm] at hm14 s1
  obtain ⟨hm1, hm4, hmI⟩ := hm14
  have HMM := hide hmm
  subst hmI
  obtain ⟨t1, ht1⟩ : ∃ t1, joinC (casesF (textF g) m l1).1 = t1 := ⟨_, rfl⟩
  have HT1 := hide ht1
  have htz : t1.size ≤ 1720 := by rw [← ht1]; have := joinC_sz (casesF (textF g) m l1).1; omega
  have HGO2 : Hid (kidsBy (ahead (talkS part) g (⟨6, name, peer, m, sort⟩ :: st)) m [] l1 = some r) := hide (by have := HGO.out; rwa [HMM.out] at this)
  obtain ⟨tt, htt⟩ : ∃ tt, talkT ⟨6, name, peer, m, sort⟩ = tt := ⟨_, rfl⟩
  have HTT := hide htt
  have httz : tt.size ≤ 41 := by rw [← htt]; exact hsz
  have HRE : Hid ((textF (g + 1) (⟨6, name, peer, m, sort⟩ :: l1)).1 = tt ++ ba [123] ++ t1 ++ ba [125]) := hide (by rw [← HTT.out, ← HT1.out]; rfl)
  clear hih hgo hstw e1 s1 n1 ht1 hts htt hmm hsz HGO HA
  go_enter Tryz.func38, Tryz.ntmps38
  go_wp2_with fail
  go_region
  go_wp2_with (first
    | (go_at_call 67; refine (cases_text part g HIH.out (⟨6, name, peer, m, sort⟩ :: st) l1 r m _ _ B (by have := HL.out; simp; omega) HSTW.out (by omega) ⟨hm1, hm4⟩ HGO2.out (Nat.le_trans HB.out (Below.size (B := w.heap.size) (by repeat (first | exact alloc1 _ _ | exact Below.refl _ _ | refine Below.drew ?_)))) (HSX.out.carry (Below.mono (by repeat (first | exact alloc1 _ _ | exact Below.refl _ _ | refine Below.drew ?_)) HB.out)) (HSW.out.carry (by repeat (first | exact alloc1 _ _ | exact Below.refl _ _ | refine Below.drew ?_)))).mono ?_; rintro e w1 ⟨⟨v1, rfl, hs1⟩, hb1⟩; rw [HT1.out]; obtain ⟨d0, d1, d2, d3, d4⟩ := NodeAt.carry (B := _) (boxed w ⟨6, name, peer, m, sort⟩ 45) (by simp) hb1; dsimp only at d0 d1 d2 d3 d4; have hs1' : w.heap.size < w1.heap.size := (by have := hb1.size; simp at this; omega); have HS1 := hide hs1; obtain ⟨ao2, cap2, rfl, hs2⟩ := hs1; have HB1 : Hid (Below w.heap.size w w1) := hide (Below.trans (a := w) (b := _) (by repeat (first | exact alloc1 _ _ | exact Below.refl _ _ | refine Below.drew ?_)) (hb1.mono (by simp))); clear hb1 hs2)
    | (go_at_call 68; refine (i_talkText ⟨6, name, peer, m, sort⟩ _ (by simp only; omega) (by simp only; omega)).mono ?_; rintro e w2 ⟨rfl, hb2⟩; rw [HTT.out]; have HB2 := hide hb2; clear hb2)
    | (go_at_call 66; refine (join4 tt (ba [123]) t1 (ba [125]) _ _ (by first | rfl | simp) (by rw [sz_ba, sz_ba]; simp only [List.length_cons, List.length_nil]; omega)).mono ?_; rintro e w3 ⟨rfl, hb3⟩; have HB3 := hide hb3; clear hb3))
  go_ret2
  refine ⟨⟨_, by rw [HRE.out]; rfl, (HS1.out.carry (HB2.out.mono (Nat.le_trans HB.out HB1.out.size))).carry (HB3.out.mono (Nat.le_trans HB.out (Nat.le_trans HB1.out.size HB2.out.size)))⟩, (HB1.out.trans (HB2.out.mono HB1.out.size)).trans (HB3.out.mono (Nat.le_trans HB1.out.size HB2.out.size))⟩

set_option maxRecDepth 100000 in
set_option maxHeartbeats 1000000 in
theorem itext6_a (part : Bool) (f : Nat) (hih : ∀ g, f = g + 1 → ITextCalls part g) (st : List Nd) (name peer : ByteArray) (many sort : Int) (l1 r : List Nd) (w : World) (B b o cap : Nat) (hlen : st.length + f = 10) (hst : StW st) (h40 : l1.length + 1 ≤ 40) (ha : ahead (talkS part) f st (⟨6, name, peer, many, sort⟩ :: l1) = some r) (hB : B ≤ w.heap.size) (hbB : b < B) (hc1 : l1.length + 1 ≤ cap) (hc2 : cap ≤ 9223372036854775807 ∧ l1.length < 4294967296) (hcap : cap = 1) (hrow : RowAt w b o (⟨6, name, peer, many, sort⟩ :: l1)) (hsw : SortW w) :
    Calls Tryz.prog 38 #[.slice (some ⟨b, o, none⟩) (l1.length + 1) cap] w fun e w' => (∃ v', e = .returned (.tuple #[.string (textF f (⟨6, name, peer, many, sort⟩ :: l1)).1, v']) ∧ SlAt w' B v' r) ∧ Below w.heap.size w w' := by
  have HR := hide hrow
  have HL := hide hlen
  have HST := hide hst
  have HA := hide ha
  have HB := hide hB
  have HBB := hide hbB
  have HSW := hide hsw
  have HSX : Hid (SlAt w B (.slice (some ⟨b, o, none⟩) 0 0) l1) := hide (by rw [List.length_eq_zero_iff.1 (show l1.length = 0 by omega)]; exact ⟨_, _, rfl, Nat.le_refl _, by simp, fun h => absurd rfl h⟩)
  subst hcap
  obtain ⟨⟨c0, c1, c2, c3, c4⟩, -⟩ := hrow
  dsimp only at c0 c1 c2 c3 c4
  have hbw : b < w.heap.size := World.block_lt_of_cell? w _ c0
  clear hlen hst ha hB hbB hsw
  obtain ⟨g, hg, hgo, hts, hstw⟩ : ∃ g, f = g + 1 ∧ kidsBy (ahead (talkS part) g (⟨6, name, peer, many, sort⟩ :: st)) many.toNat [] l1 = some r ∧ talkS part ⟨6, name, peer, many, sort⟩ = true ∧ StW (⟨6, name, peer, many, sort⟩ :: st) := by
    have h := HA.out
    cases f with
    | zero => rw [ahead_t0 (by simp) (by simp)] at h; cases h
    | succ g =>
      rw [ahead_t (by simp) (by simp) (by simp)] at h
      split at h
      · rename_i hv
        exact ⟨g, rfl, h, hv, fun x hx h2 => by
          rcases List.mem_cons.1 hx with e | e
          · rw [e] at h2; simp at h2
          · exact HST.out x e h2⟩
      · cases h
  subst hg
  have HIH := hide (hih g rfl)
  have HGO := hide hgo
  have HSTW := hide hstw
  have hsz := talk_sz hts
  have hm14 : 1 ≤ many.toNat ∧ many.toNat ≤ 4 ∧ many = (many.toNat : Int) := by simp only [talkS, manyB, Bool.and_eq_true, decide_eq_true_eq] at hts; omega
  have hpz : peer.size ≤ 20 := by simp only [talkS, Bool.and_eq_true] at hts; exact word20 hts.1.1.1
  have hnz : name.size ≤ 20 := by
    simp only [talkS, Bool.and_eq_true] at hts
    cases part
    · simp at hts <;> first | exact word20 hts.2.1 | exact word20 hts.2.1.2
    · simp at hts <;> (
        have h0 : name.data.toList = [] := by rw [← Go.ByteArray.toList_eq]; simp [hts]
        have h3 : name.size = name.data.toList.length := rfl
        rw [h3, h0]; simp)
  obtain ⟨e1, s1, n1⟩ := kids_text (fun l r => ahead_text part g _ l r hstw) _ _ _ _ hgo
  obtain ⟨m, hmm⟩ : ∃ m, many.toNat = m := ⟨_, rfl⟩
  rw [hmm] at hm14 s1
  obtain ⟨hm1, hm4, hmI⟩ := hm14
  have HMM := hide hmm
  subst hmI
  obtain ⟨t1, ht1⟩ : ∃ t1, joinC (casesF (textF g) m l1).1 = t1 := ⟨_, rfl⟩
  have HT1 := hide ht1
  have htz : t1.size ≤ 1720 := by rw [← ht1]; have := joinC_sz (casesF (textF g) m l1).1; omega
  have HGO2 : Hid (kidsBy (ahead (talkS part) g (⟨6, name, peer, m, sort⟩ :: st)) m [] l1 = some r) := hide (by have := HGO.out; rwa [HMM.out] at this)
  obtain ⟨tt, htt⟩ : ∃ tt, talkT ⟨6, name, peer, m, sort⟩ = tt := ⟨_, rfl⟩
  have HTT := hide htt
  have httz : tt.size ≤ 41 := by rw [← htt]; exact hsz
  have HRE : Hid ((textF (g + 1) (⟨6, name, peer, m, sort⟩ :: l1)).1 = tt ++ ba [123] ++ t1 ++ ba [125]) := hide (by rw [← HTT.out, ← HT1.out]; rfl)
  clear hih hgo hstw e1 s1 n1 ht1 hts htt hmm hsz HGO HA
  go_enter Tryz.func38, Tryz.ntmps38
  go_wp2_with fail
  go_region
  go_wp2_with (first
    | (go_at_call 67; refine (cases_text part g HIH.out (⟨6, name, peer, m, sort⟩ :: st) l1 r m _ _ B (by have := HL.out; simp; omega) HSTW.out (by omega) ⟨hm1, hm4⟩ HGO2.out (Nat.le_trans HB.out (Below.size (B := w.heap.size) (by repeat (first | exact alloc1 _ _ | exact Below.refl _ _ | refine Below.drew ?_)))) (HSX.out.carry (Below.mono (by repeat (first | exact alloc1 _ _ | exact Below.refl _ _ | refine Below.drew ?_)) HB.out)) (HSW.out.carry (by repeat (first | exact alloc1 _ _ | exact Below.refl _ _ | refine Below.drew ?_)))).mono ?_; rintro e w1 ⟨⟨v1, rfl, hs1⟩, hb1⟩; rw [HT1.out]; obtain ⟨d0, d1, d2, d3, d4⟩ := NodeAt.carry (B := _) (boxed w ⟨6, name, peer, m, sort⟩ 45) (by simp) hb1; dsimp only at d0 d1 d2 d3 d4; have hs1' : w.heap.size < w1.heap.size := (by have := hb1.size; simp at this; omega); have HS1 := hide hs1; obtain ⟨ao2, cap2, rfl, hs2⟩ := hs1; have HB1 : Hid (Below w.heap.size w w1) := hide (Below.trans (a := w) (b := _) (by repeat (first | exact alloc1 _ _ | exact Below.refl _ _ | refine Below.drew ?_)) (hb1.mono (by simp))); clear hb1 hs2)
    | (go_at_call 68; refine (i_talkText ⟨6, name, peer, m, sort⟩ _ (by simp only; omega) (by simp only; omega)).mono ?_; rintro e w2 ⟨rfl, hb2⟩; rw [HTT.out]; have HB2 := hide hb2; clear hb2)
    | (go_at_call 66; refine (join4 tt (ba [123]) t1 (ba [125]) _ _ (by first | rfl | simp) (by rw [sz_ba, sz_ba]; simp only [List.length_cons, List.length_nil]; omega)).mono ?_; rintro e w3 ⟨rfl, hb3⟩; have HB3 := hide hb3; clear hb3))
  go_ret2
  refine ⟨⟨_, by rw [HRE.out]; rfl, (HS1.out.carry (HB2.out.mono (Nat.le_trans HB.out HB1.out.size))).carry (HB3.out.mono (Nat.le_trans HB.out (Nat.le_trans HB1.out.size HB2.out.size)))⟩, (HB1.out.trans (HB2.out.mono HB1.out.size)).trans (HB3.out.mono (Nat.le_trans HB1.out.size HB2.out.size))⟩
end Go.Proofs.YtmjlblbhakppfaaGreatDoor
