/- textAhead, a step: the Node at hand is of this kind. -/
import Derived.Test.YtmjlblbhakppfaaGreatDoorQB20
namespace Go.Proofs.YtmjlblbhakppfaaGreatDoor
open Go.RowKit

set_option maxRecDepth 100000 in
set_option maxHeartbeats 1000000 in
theorem itext0_b (part : Bool) (f : Nat) (st : List Nd) (name peer : ByteArray) (many sort : Int) (l1 r : List Nd) (w : World) (B b o cap : Nat) (hlen : st.length + f = 10) (hst : StW st) (h40 : l1.length + 1 ≤ 40) (ha : ahead (talkS part) f st (⟨0, name, peer, many, sort⟩ :: l1) = some r) (hB : B ≤ w.heap.size) (hbB : b < B) (hc1 : l1.length + 1 ≤ cap) (hc2 : cap ≤ 9223372036854775807 ∧ l1.length < 4294967296) (hcap : cap ≠ 1) (hrow : RowAt w b o (⟨0, name, peer, many, sort⟩ :: l1)) (hsw : SortW w) :
    Calls Tryz.prog 38 #[.slice (some ⟨b, o, none⟩) (l1.length + 1) cap] w fun e w' => (∃ v', e = .returned (.tuple #[.string (textF f (⟨0, name, peer, many, sort⟩ :: l1)).1, v']) ∧ SlAt w' B v' r) ∧ Below w.heap.size w w' := by
  have HR := hide hrow
  have HL := hide hlen
  have HST := hide hst
  have HA := hide ha
  have HB := hide hB
  have HBB := hide hbB
  have HSW := hide hsw
  have HSX : Hid (SlAt w B (.slice (some ⟨b, o + 5, none⟩) l1.length (cap - 1)) l1) := hide (SlAt.tail hbB hrow (by simp; omega) hc2 _ (fun _ => rfl))
  obtain ⟨⟨c0, c1, c2, c3, c4⟩, -⟩ := hrow
  dsimp only at c0 c1 c2 c3 c4
  have hbw : b < w.heap.size := World.block_lt_of_cell? w _ c0
  clear hlen hst ha hB hbB hsw
  have HRE : Hid (r = l1 ∧ (textF f (⟨0, name, peer, many, sort⟩ :: l1)).1 = ba [101, 110, 100]) := hide (by
    have h := HA.out
    rw [ahead_0 rfl] at h
    split at h
    · cases h; exact ⟨rfl, by cases f <;> rfl⟩
    · cases h)
  go_enter Tryz.func38, Tryz.ntmps38
  go_wp2_with fail
  go_region
  go_wp2_with fail
  go_ret2
  refine ⟨⟨_, by rw [HRE.out.2]; rfl, ?_⟩, (by repeat (first | exact alloc1 _ _ | exact Below.refl _ _ | refine Below.drew ?_))⟩
  rw [HRE.out.1]
  exact HSX.out.carry (Below.mono (by repeat (first | exact alloc1 _ _ | exact Below.refl _ _ | refine Below.drew ?_)) HB.out)

set_option maxRecDepth 100000 in
set_option maxHeartbeats 1000000 in
theorem itext0_a (part : Bool) (f : Nat) (st : List Nd) (name peer : ByteArray) (many sort : Int) (l1 r : List Nd) (w : World) (B b o cap : Nat) (hlen : st.length + f = 10) (hst : StW st) (h40 : l1.length + 1 ≤ 40) (ha : ahead (talkS part) f st (⟨0, name, peer, many, sort⟩ :: l1) = some r) (hB : B ≤ w.heap.size) (hbB : b < B) (hc1 : l1.length + 1 ≤ cap) (hc2 : cap ≤ 9223372036854775807 ∧ l1.length < 4294967296) (hcap : cap = 1) (hrow : RowAt w b o (⟨0, name, peer, many, sort⟩ :: l1)) (hsw : SortW w) :
    Calls Tryz.prog 38 #[.slice (some ⟨b, o, none⟩) (l1.length + 1) cap] w fun e w' => (∃ v', e = .returned (.tuple #[.string (textF f (⟨0, name, peer, many, sort⟩ :: l1)).1, v']) ∧ SlAt w' B v' r) ∧ Below w.heap.size w w' := by
  have HR := hide hrow
  have HL := hide hlen
  have HST := hide hst
  have HA := hide ha
  have HB := hide hB
  have HBB := hide hbB
  have HSW := hide hsw
  have HSX : Hid (SlAt w B (.slice (some ⟨b, o, none⟩) 0 0) l1) := hide (by rw [List.length_eq_zero_iff.1 (show l1.length = 0 by omega)]; exact ⟨_, _, rfl, Nat.le_refl _, by simp, fun h => absurd rfl h⟩)
  subst hcap
  obtain ⟨⟨c0, c1, c2, c3, c4⟩, -⟩ := hrow
  dsimp only at c0 c1 c2 c3 c4
  have hbw : b < w.heap.size := World.block_lt_of_cell? w _ c0
  clear hlen hst ha hB hbB hsw
  have HRE : Hid (r = l1 ∧ (textF f (⟨0, name, peer, many, sort⟩ :: l1)).1 = ba [101, 110, 100]) := hide (by
    have h := HA.out
    rw [ahead_0 rfl] at h
    split at h
    · cases h; exact ⟨rfl, by cases f <;> rfl⟩
    · cases h)
  go_enter Tryz.func38, Tryz.ntmps38
  go_wp2_with fail
  go_region
  go_wp2_with fail
  go_ret2
  refine ⟨⟨_, by rw [HRE.out.2]; rfl, ?_⟩, (by repeat (first | exact alloc1 _ _ | exact Below.refl _ _ | refine Below.drew ?_))⟩
  rw [HRE.out.1]
  exact HSX.out.carry (Below.mono (by repeat (first | exact alloc1 _ _ | exact Below.refl _ _ | refine Below.drew ?_)) HB.out)

set_option maxRecDepth 100000 in
set_option maxHeartbeats 1000000 in
theorem itext1_b (part : Bool) (f : Nat) (st : List Nd) (name peer : ByteArray) (many sort : Int) (l1 r : List Nd) (w : World) (B b o cap : Nat) (hlen : st.length + f = 10) (hst : StW st) (h40 : l1.length + 1 ≤ 40) (ha : ahead (talkS part) f st (⟨1, name, peer, many, sort⟩ :: l1) = some r) (hB : B ≤ w.heap.size) (hbB : b < B) (hc1 : l1.length + 1 ≤ cap) (hc2 : cap ≤ 9223372036854775807 ∧ l1.length < 4294967296) (hcap : cap ≠ 1) (hrow : RowAt w b o (⟨1, name, peer, many, sort⟩ :: l1)) (hsw : SortW w) :
    Calls Tryz.prog 38 #[.slice (some ⟨b, o, none⟩) (l1.length + 1) cap] w fun e w' => (∃ v', e = .returned (.tuple #[.string (textF f (⟨1, name, peer, many, sort⟩ :: l1)).1, v']) ∧ SlAt w' B v' r) ∧ Below w.heap.size w w' := by
  have HR := hide hrow
  have HL := hide hlen
  have HST := hide hst
  have HA := hide ha
  have HB := hide hB
  have HBB := hide hbB
  have HSW := hide hsw
  have HSX : Hid (SlAt w B (.slice (some ⟨b, o + 5, none⟩) l1.length (cap - 1)) l1) := hide (SlAt.tail hbB hrow (by simp; omega) hc2 _ (fun _ => rfl))
  obtain ⟨⟨c0, c1, c2, c3, c4⟩, -⟩ := hrow
  dsimp only at c0 c1 c2 c3 c4
  have hbw : b < w.heap.size := World.block_lt_of_cell? w _ c0
  clear hlen hst ha hB hbB hsw
  have HRE : Hid (r = l1 ∧ (textF f (⟨1, name, peer, many, sort⟩ :: l1)).1 = name) := hide (by
    have h := HA.out
    rw [ahead_1 rfl] at h
    split at h
    · cases h; exact ⟨rfl, by cases f <;> rfl⟩
    · cases h)
  go_enter Tryz.func38, Tryz.ntmps38
  go_wp2_with fail
  go_region
  go_wp2_with fail
  go_ret2
  refine ⟨⟨_, by rw [HRE.out.2]; rfl, ?_⟩, (by repeat (first | exact alloc1 _ _ | exact Below.refl _ _ | refine Below.drew ?_))⟩
  rw [HRE.out.1]
  exact HSX.out.carry (Below.mono (by repeat (first | exact alloc1 _ _ | exact Below.refl _ _ | refine Below.drew ?_)) HB.out)

set_option maxRecDepth 100000 in
set_option maxHeartbeats 1000000 in
theorem itext1_a (part : Bool) (f : Nat) (st : List Nd) (name peer : ByteArray) (many sort : Int) (l1 r : List Nd) (w : World) (B b o cap : Nat) (hlen : st.length + f = 10) (hst : StW st) (h40 : l1.length + 1 ≤ 40) (ha : ahead (talkS part) f st (⟨1, name, peer, many, sort⟩ :: l1) = some r) (hB : B ≤ w.heap.size) (hbB : b < B) (hc1 : l1.length + 1 ≤ cap) (hc2 : cap ≤ 9223372036854775807 ∧ l1.length < 4294967296) (hcap : cap = 1) (hrow : RowAt w b o (⟨1, name, peer, many, sort⟩ :: l1)) (hsw : SortW w) :
    Calls Tryz.prog 38 #[.slice (some ⟨b, o, none⟩) (l1.length + 1) cap] w fun e w' => (∃ v', e = .returned (.tuple #[.string (textF f (⟨1, name, peer, many, sort⟩ :: l1)).1, v']) ∧ SlAt w' B v' r) ∧ Below w.heap.size w w' := by
  have HR := hide hrow
  have HL := hide hlen
  have HST := hide hst
  have HA := hide ha
  have HB := hide hB
  have HBB := hide hbB
  have HSW := hide hsw
  have HSX : Hid (SlAt w B (.slice (some ⟨b, o, none⟩) 0 0) l1) := hide (by rw [List.length_eq_zero_iff.1 (show l1.length = 0 by omega)]; exact ⟨_, _, rfl, Nat.le_refl _, by simp, fun h => absurd rfl h⟩)
  subst hcap
  obtain ⟨⟨c0, c1, c2, c3, c4⟩, -⟩ := hrow
  dsimp only at c0 c1 c2 c3 c4
  have hbw : b < w.heap.size := World.block_lt_of_cell? w _ c0
  clear hlen hst ha hB hbB hsw
  have HRE : Hid (r = l1 ∧ (textF f (⟨1, name, peer, many, sort⟩ :: l1)).1 = name) := hide (by
    have h := HA.out
    rw [ahead_1 rfl] at h
    split at h
    · cases h; exact ⟨rfl, by cases f <;> rfl⟩
    · cases h)
  go_enter Tryz.func38, Tryz.ntmps38
  go_wp2_with fail
  go_region
  go_wp2_with fail
  go_ret2
  refine ⟨⟨_, by rw [HRE.out.2]; rfl, ?_⟩, (by repeat (first | exact alloc1 _ _ | exact Below.refl _ _ | refine Below.drew ?_))⟩
  rw [HRE.out.1]
  exact HSX.out.carry (Below.mono (by repeat (first | exact alloc1 _ _ | exact Below.refl _ _ | refine Below.drew ?_)) HB.out)

set_option maxRecDepth 100000 in
set_option maxHeartbeats 1000000 in
theorem itext2_b (part : Bool) (f : Nat) (hih : ∀ g, f = g + 1 → ITextCalls part g) (st : List Nd) (name peer : ByteArray) (many sort : Int) (l1 r : List Nd) (w : World) (B b o cap : Nat) (hlen : st.length + f = 10) (hst : StW st) (h40 : l1.length + 1 ≤ 40) (ha : ahead (talkS part) f st (⟨2, name, peer, many, sort⟩ :: l1) = some r) (hB : B ≤ w.heap.size) (hbB : b < B) (hc1 : l1.length + 1 ≤ cap) (hc2 : cap ≤ 9223372036854775807 ∧ l1.length < 4294967296) (hcap : cap ≠ 1) (hrow : RowAt w b o (⟨2, name, peer, many, sort⟩ :: l1)) (hsw : SortW w) :
    Calls Tryz.prog 38 #[.slice (some ⟨b, o, none⟩) (l1.length + 1) cap] w fun e w' => (∃ v', e = .returned (.tuple #[.string (textF f (⟨2, name, peer, many, sort⟩ :: l1)).1, v']) ∧ SlAt w' B v' r) ∧ Below w.heap.size w w' := by
  have HR := hide hrow
  have HL := hide hlen
  have HST := hide hst
  have HA := hide ha
  have HB := hide hB
  have HBB := hide hbB
  have HSW := hide hsw
  have HSX : Hid (SlAt w B (.slice (some ⟨b, o + 5, none⟩) l1.length (cap - 1)) l1) := hide (SlAt.tail hbB hrow (by simp; omega) hc2 _ (fun _ => rfl))
  obtain ⟨⟨c0, c1, c2, c3, c4⟩, -⟩ := hrow
  dsimp only at c0 c1 c2 c3 c4
  have hbw : b < w.heap.size := World.block_lt_of_cell? w _ c0
  clear hlen hst ha hB hbB hsw
  obtain ⟨g, hg, hgo, hw20, hstw⟩ : ∃ g, f = g + 1 ∧ ahead (talkS part) g (⟨2, name, peer, many, sort⟩ :: st) l1 = some r ∧ name.size ≤ 20 ∧ StW (⟨2, name, peer, many, sort⟩ :: st) := by
    have h := HA.out
    cases f with
    | zero => rw [ahead_20 rfl] at h; cases h
    | succ g =>
      rw [ahead_2 rfl] at h
      split at h
      · rename_i hv
        have hwn : name.size ≤ 20 := by simp only [recB, Bool.and_eq_true] at hv; exact word20 hv.1.2
        exact ⟨g, rfl, h, hwn, fun x hx h2 => by
          rcases List.mem_cons.1 hx with e | e
          · rw [e]; exact hwn
          · exact HST.out x e h2⟩
      · cases h
  subst hg
  have HIH := hide (hih g rfl)
  have HGO := hide hgo
  have HSTW := hide hstw
  obtain ⟨e1, s1⟩ := ahead_text part g _ l1 r hstw hgo
  obtain ⟨t1, ht1⟩ : ∃ t1, (textF g l1).1 = t1 := ⟨_, rfl⟩
  rw [ht1] at s1
  have HT1 := hide ht1
  have htz : t1.size ≤ 1720 := by omega
  have HRE : Hid ((textF (g + 1) (⟨2, name, peer, many, sort⟩ :: l1)).1 = ba [114, 101, 99] ++ ba [32] ++ name ++ ba [46] ++ t1) := hide (by rw [← HT1.out]; rfl)
  clear hih hgo hstw e1 s1 ht1
  go_enter Tryz.func38, Tryz.ntmps38
  go_wp2_with fail
  go_region
  go_wp2_with (first
    | (go_at_call 38; refine (HIH.out (⟨2, name, peer, many, sort⟩ :: st) l1 r _ _ B (by have := HL.out; simp; omega) HSTW.out (by omega) HGO.out (Nat.le_trans HB.out (Below.size (B := w.heap.size) (by repeat (first | exact alloc1 _ _ | exact Below.refl _ _ | refine Below.drew ?_)))) (HSX.out.carry (Below.mono (by repeat (first | exact alloc1 _ _ | exact Below.refl _ _ | refine Below.drew ?_)) HB.out)) (HSW.out.carry (by repeat (first | exact alloc1 _ _ | exact Below.refl _ _ | refine Below.drew ?_)))).mono ?_; rintro e w1 ⟨⟨v1, rfl, hs1⟩, hb1⟩; rw [HT1.out]; obtain ⟨d0, d1, d2, d3, d4⟩ := NodeAt.carry (B := _) (boxed w ⟨2, name, peer, many, sort⟩ 45) (by simp) hb1; dsimp only at d0 d1 d2 d3 d4; have hs1' : w.heap.size < w1.heap.size := (by have := hb1.size; simp at this; omega); have HS1 := hide hs1; obtain ⟨ao2, cap2, rfl, hs2⟩ := hs1; have HB1 : Hid (Below w.heap.size w w1) := hide (Below.trans (a := w) (b := _) (by repeat (first | exact alloc1 _ _ | exact Below.refl _ _ | refine Below.drew ?_)) (hb1.mono (by simp))); clear hb1 hs2)
    | (go_at_call 66; refine (join5 (ba [114, 101, 99]) (ba [32]) name (ba [46]) t1 _ _ (by simp) (by rw [sz_ba, sz_ba, sz_ba]; simp only [List.length_cons, List.length_nil]; omega)).mono ?_; rintro e w2 ⟨rfl, hb2⟩; have HB2 := hide hb2; clear hb2))
  go_ret2
  refine ⟨⟨_, by rw [HRE.out]; rfl, HS1.out.carry (HB2.out.mono (Nat.le_trans HB.out HB1.out.size))⟩, HB1.out.trans (HB2.out.mono HB1.out.size)⟩

set_option maxRecDepth 100000 in
set_option maxHeartbeats 1000000 in
theorem itext2_a (part : Bool) (f : Nat) (hih : ∀ g, f = g + 1 → ITextCalls part g) (st : List Nd) (name peer : ByteArray) (many sort : Int) (l1 r : List Nd) (w : World) (B b o cap : Nat) (hlen : st.length + f = 10) (hst : StW st) (h40 : l1.length + 1 ≤ 40) (ha : ahead (talkS part) f st (⟨2, name, peer, many, sort⟩ :: l1) = some r) (hB : B ≤ w.heap.size) (hbB : b < B) (hc1 : l1.length + 1 ≤ cap) (hc2 : cap ≤ 9223372036854775807 ∧ l1.length < 4294967296) (hcap : cap = 1) (hrow : RowAt w b o (⟨2, name, peer, many, sort⟩ :: l1)) (hsw : SortW w) :
    Calls Tryz.prog 38 #[.slice (some ⟨b, o, none⟩) (l1.length + 1) cap] w fun e w' => (∃ v', e = .returned (.tuple #[.string (textF f (⟨2, name, peer, many, sort⟩ :: l1)).1, v']) ∧ SlAt w' B v' r) ∧ Below w.heap.size w w' := by
  have HR := hide hrow
  have HL := hide hlen
  have HST := hide hst
  have HA := hide ha
  have HB := hide hB
  have HBB := hide hbB
  have HSW := hide hsw
  have HSX : Hid (SlAt w B (.slice (some ⟨b, o, none⟩) 0 0) l1) := hide (by rw [List.length_eq_zero_iff.1 (show l1.length = 0 by omega)]; exact ⟨_, _, rfl, Nat.le_refl _, by simp, fun h => absurd rfl h⟩)
  subst hcap
  obtain ⟨⟨c0, c1, c2, c3, c4⟩, -⟩ := hrow
  dsimp only at c0 c1 c2 c3 c4
  have hbw : b < w.heap.size := World.block_lt_of_cell? w _ c0
  clear hlen hst ha hB hbB hsw
  obtain ⟨g, hg, hgo, hw20, hstw⟩ : ∃ g, f = g + 1 ∧ ahead (talkS part) g (⟨2, name, peer, many, sort⟩ :: st) l1 = some r ∧ name.size ≤ 20 ∧ StW (⟨2, name, peer, many, sort⟩ :: st) := by
    have h := HA.out
    cases f with
    | zero => rw [ahead_20 rfl] at h; cases h
    | succ g =>
      rw [ahead_2 rfl] at h
      split at h
      · rename_i hv
        have hwn : name.size ≤ 20 := by simp only [recB, Bool.and_eq_true] at hv; exact word20 hv.1.2
        exact ⟨g, rfl, h, hwn, fun x hx h2 => by
          rcases List.mem_cons.1 hx with e | e
          · rw [e]; exact hwn
          · exact HST.out x e h2⟩
      · cases h
  subst hg
  have HIH := hide (hih g rfl)
  have HGO := hide hgo
  have HSTW := hide hstw
  obtain ⟨e1, s1⟩ := ahead_text part g _ l1 r hstw hgo
  obtain ⟨t1, ht1⟩ : ∃ t1, (textF g l1).1 = t1 := ⟨_, rfl⟩
  rw [ht1] at s1
  have HT1 := hide ht1
  have htz : t1.size ≤ 1720 := by omega
  have HRE : Hid ((textF (g + 1) (⟨2, name, peer, many, sort⟩ :: l1)).1 = ba [114, 101, 99] ++ ba [32] ++ name ++ ba [46] ++ t1) := hide (by rw [← HT1.out]; rfl)
  clear hih hgo hstw e1 s1 ht1
  go_enter Tryz.func38, Tryz.ntmps38
  go_wp2_with fail
  go_region
  go_wp2_with (first
    | (go_at_call 38; refine (HIH.out (⟨2, name, peer, many, sort⟩ :: st) l1 r _ _ B (by have := HL.out; simp; omega) HSTW.out (by omega) HGO.out (Nat.le_trans HB.out (Below.size (B := w.heap.size) (by repeat (first | exact alloc1 _ _ | exact Below.refl _ _ | refine Below.drew ?_)))) (HSX.out.carry (Below.mono (by repeat (first | exact alloc1 _ _ | exact Below.refl _ _ | refine Below.drew ?_)) HB.out)) (HSW.out.carry (by repeat (first | exact alloc1 _ _ | exact Below.refl _ _ | refine Below.drew ?_)))).mono ?_; rintro e w1 ⟨⟨v1, rfl, hs1⟩, hb1⟩; rw [HT1.out]; obtain ⟨d0, d1, d2, d3, d4⟩ := NodeAt.carry (B := _) (boxed w ⟨2, name, peer, many, sort⟩ 45) (by simp) hb1; dsimp only at d0 d1 d2 d3 d4; have hs1' : w.heap.size < w1.heap.size := (by have := hb1.size; simp at this; omega); have HS1 := hide hs1; obtain ⟨ao2, cap2, rfl, hs2⟩ := hs1; have HB1 : Hid (Below w.heap.size w w1) := hide (Below.trans (a := w) (b := _) (by repeat (first | exact alloc1 _ _ | exact Below.refl _ _ | refine Below.drew ?_)) (hb1.mono (by simp))); clear hb1 hs2)
    | (go_at_call 66; refine (join5 (ba [114, 101, 99]) (ba [32]) name (ba [46]) t1 _ _ (by simp) (by rw [sz_ba, sz_ba, sz_ba]; simp only [List.length_cons, List.length_nil]; omega)).mono ?_; rintro e w2 ⟨rfl, hb2⟩; have HB2 := hide hb2; clear hb2))
  go_ret2
  refine ⟨⟨_, by rw [HRE.out]; rfl, HS1.out.carry (HB2.out.mono (Nat.le_trans HB.out HB1.out.size))⟩, HB1.out.trans (HB2.out.mono HB1.out.size)⟩
end Go.Proofs.YtmjlblbhakppfaaGreatDoor
