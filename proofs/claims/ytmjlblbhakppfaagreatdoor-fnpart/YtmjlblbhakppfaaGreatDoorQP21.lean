import Derived.Test.YtmjlblbhakppfaaGreatDoorQP14
import Derived.Test.YtmjlblbhakppfaaGreatDoorQP20
namespace Go.Proofs.YtmjlblbhakppfaaGreatDoor
open Go.RowKit

set_option maxRecDepth 100000 in
set_option maxHeartbeats 1000000 in
theorem itext0_b (part : Bool) (f : Nat) (st : List Nd) (name peer : ByteArray) (many sort : Int) (l1 r : List Nd) (w : World) (B b o cap : Nat) (hlen : st.length + f = 10) (hst : StW st) (h40 : l1.length + 1 ≤ 40) (ha : ahead (talkS part) f st (⟨0, name, peer, many, sort⟩ :: l1) = some r) (hB : B ≤ w.heap.size) (hbB : b < B) (hc1 : l1.length + 1 ≤ cap) (hc2 : cap ≤ 9223372036854775807 ∧ l1.length < 4294967296) (hcap : cap ≠ 1) (hrow : RowAt w b o (⟨0, name, peer, many, sort⟩ :: l1)) (hsw : SortW w) :
    Calls Tryz.prog 38 #[.slice (some ⟨b, o, none⟩) (l1.length + 1) cap] w fun e w' => (∃ v', e = .returned (.tuple #[.string (textF f (⟨0, name, peer, many, sort⟩ :: l1)).1, v']) ∧ SlAt w' B v' r) ∧ Below w.heap.size w w' := by
  have HR := hide hrow
  have HL := hide hlen
  have HST := hide hst
  have HA := hide ha
  have HB := hide hB
  have HBB := hide hbB
  have HSW := hide hsw
  have HSX : Hid (SlAt w B (.slice (some ⟨b, o + 5, none⟩) l1.length (cap - 1)) l1) := hide (SlAt.tail hbB hrow (by simp; omega) hc2 _ (fun _ => rfl))
  obtain ⟨⟨c0, c1, c2, c3, c4⟩, -⟩ := hrow
  dsimp only at c0 c1 c2 c3 c4
  have hbw : b < w.heap.size := World.block_lt_of_cell? w _ c0
  clear hlen hst ha hB hbB hsw
  have HRE : Hid (r = l1 ∧ (textF f (⟨0, name, peer, many, sort⟩ :: l1)).1 = ba [101, 110, 100]) := hide (by
    have h := HA.out
    rw [ahead_0 rfl] at h
    split at h
    · cases h; exact ⟨rfl, by cases f <;> rfl⟩
    · cases h)
  go_enter Tryz.func38, Tryz.ntmps38
  go_wp2_with fail
  go_region
  go_wp2_with fail
  go_ret2
  refine ⟨⟨_, by rw [HRE.out.2]; rfl, ?_⟩, (by repeat (first | exact alloc1 _ _ | exact Below.refl _ _ | refine Below.drew ?_))⟩
  rw [HRE.out.1]
  exact HSX.out.carry (Below.mono (by repeat (first | exact alloc1 _ _ | exact Below.refl _ _ | refine Below.drew ?_)) HB.out)

set_option maxRecDepth 100000 in
set_option maxHeartbeats 1000000 in
theorem itext0_a (part : Bool) (f : Nat) (st : List Nd) (name peer : ByteArray) (many sort : Int) (l1 r : List Nd) (w : World) (B b o cap : Nat) (hlen : st.length + f = 10) (hst : StW st) (h40 : l1.length + 1 ≤ 40) (ha : ahead (talkS part) f st (⟨0, name, peer, many, sort⟩ :: l1) = some r) (hB : B ≤ w.heap.size) (hbB : b < B) (hc1 : l1.length + 1 ≤ cap) (hc2 : cap ≤ 9223372036854775807 ∧ l1.length < 4294967296) (hcap : cap = 1) (hrow : RowAt w b o (⟨0, name, peer, many, sort⟩ :: l1)) (hsw : SortW w) :
    Calls Tryz.prog 38 #[.slice (some ⟨b, o, none⟩) (l1.length + 1) cap] w fun e w' => (∃ v', e = .returned (.tuple #[.string (textF f (⟨0, name, peer, many, sort⟩ :: l1)).1, v']) ∧ SlAt w' B v' r) ∧ Below w.heap.size w w' := by
  have HR := hide hrow
  have HL := hide hlen
  have HST := hide hst
  have HA := hide ha
  have HB := hide hB
  have HBB := hide hbB
  have HSW := hide hsw
  have HSX : Hid (SlAt w B (.slice (some ⟨b, o, none⟩) 0 0) l1) := hide (by rw [List.length_eq_zero_iff.1 (show l1.length = 0 by omega)]; exact ⟨_, _, rfl, Nat.le_refl _, by simp, fun h => absurd rfl h⟩)
  subst hcap
  obtain ⟨⟨c0, c1, c2, c3, c4⟩, -⟩ := hrow
  dsimp only at c0 c1 c2 c3 c4
  have hbw : b < w.heap.size := World.block_lt_of_cell? w _ c0
  clear hlen hst ha hB hbB hsw
  have HRE : Hid (r = l1 ∧ (textF f (⟨0, name, peer, many, sort⟩ :: l1)).1 = ba [101, 110, 100]) := hide (by
    have h := HA.out
    rw [ahead_0 rfl] at h
    split at h
    · cases h; exact ⟨rfl, by cases f <;> rfl⟩
    · cases h)
  go_enter Tryz.func38, Tryz.ntmps38
  go_wp2_with fail
  go_region
  go_wp2_with fail
  go_ret2
  refine ⟨⟨_, by rw [HRE.out.2]; rfl, ?_⟩, (by repeat (first | exact alloc1 _ _ | exact Below.refl _ _ | refine Below.drew ?_))⟩
  rw [HRE.out.1]
  exact HSX.out.carry (Below.mono (by repeat (first | exact alloc1 _ _ | exact Below.refl _ _ | refine Below.drew ?_)) HB.out)

set_option maxRecDepth 100000 in
set_option maxHeartbeats 1000000 in
theorem itext1_b (part : Bool) (f : Nat) (st : List Nd) (name peer : ByteArray) (many sort : Int) (l1 r : List Nd) (w : World) (B b o cap : Nat) (hlen : st.length + f = 10) (hst : StW st) (h40 : l1.length + 1 ≤ 40) (ha : ahead (talkS part) f st (⟨1, name, peer, many, sort⟩ :: l1) = some r) (hB : B ≤ w.heap.size) (hbB : b < B) (hc1 : l1.length + 1 ≤ cap) (hc2 : cap ≤ 9223372036854775807 ∧ l1.length < 4294967296) (hcap : cap ≠ 1) (hrow : RowAt w b o (⟨1, name, peer, many, sort⟩ :: l1)) (hsw : SortW w) :
    Calls Tryz.prog 38 #[.slice (some ⟨b, o, none⟩) (l1.length + 1) cap] w fun e w' => (∃ v', e = .returned (.tuple #[.string (textF f (⟨1, name, peer, many, sort⟩ :: l1)).1, v']) ∧ SlAt w' B v' r) ∧ Below w.heap.size w w' := by
  have HR := hide hrow
  have HL := hide hlen
  have HST := hide hst
  have HA := hide ha
  have HB := hide hB
  have HBB := hide hbB
  have HSW := hide hsw
  have HSX : Hid (SlAt w B (.slice (some ⟨b, o + 5, none⟩) l1.length (cap - 1)) l1) := hide (SlAt.tail hbB hrow (by simp; omega) hc2 _ (fun _ => rfl))
  obtain ⟨⟨c0, c1, c2, c3, c4⟩, -⟩ := hrow
  dsimp only at c0 c1 c2 c3 c4
  have hbw : b < w.heap.size := World.block_lt_of_cell? w _ c0
  clear hlen hst ha hB hbB hsw
  have HRE : Hid (r = l1 ∧ (textF f (⟨1, name, peer, many, sort⟩ :: l1)).1 = name) := hide (by
    have h := HA.out
    rw [ahead_1 rfl] at h
    split at h
    · cases h; exact ⟨rfl, by cases f <;> rfl⟩
    · cases h)
  go_enter Tryz.func38, Tryz.ntmps38
  go_wp2_with fail
  go_region
  go_wp2_with fail
  go_ret2
  refine ⟨⟨_, by rw [HRE.out.2]; rfl, ?_⟩, (by repeat (first | exact alloc1 _ _ | exact Below.refl _ _ | refine Below.drew ?_))⟩
  rw [HRE.out.1]
  exact HSX.out.carry (Below.mono (by repeat (first | exact alloc1 _ _ | exact Below.refl _ _ | refine Below.drew ?_)) HB.out)

set_option maxRecDepth 100000 in
set_option maxHeartbeats 1000000 in
theorem itext1_a (part : Bool) (f : Nat) (st : List Nd) (name peer : ByteArray) (many sort : Int) (l1 r : List Nd) (w : World) (B b o cap : Nat) (hlen : st.length + f = 10) (hst : StW st) (h40 : l1.length + 1 ≤ 40) (ha : ahead (talkS part) f st (⟨1, name, peer, many, sort⟩ :: l1) = some r) (hB : B ≤ w.heap.size) (hbB : b < B) (hc1 : l1.length + 1 ≤ cap) (hc2 : cap ≤ 9223372036854775807 ∧ l1.length < 4294967296) (hcap : cap = 1) (hrow : RowAt w b o (⟨1, name, peer, many, sort⟩ :: l1)) (hsw : SortW w) :
    Calls Tryz.prog 38 #[.slice (some ⟨b, o, none⟩) (l1.length + 1) cap] w fun e w' => (∃ v', e = .returned (.tuple #[.string (textF f (⟨1, name, peer, many, sort⟩ :: l1)).1, v']) ∧ SlAt w' B v' r) ∧ Below w.heap.size w w' := by
  have HR := hide hrow
  have HL := hide hlen
  have HST := hide hst
  have HA := hide ha
  have HB := hide hB
  have HBB := hide hbB
  have HSW := hide hsw
  have HSX : Hid (SlAt w B (.slice (some ⟨b, o, none⟩) 0 0) l1) := hide (by rw [List.length_eq_zero_iff.1 (show l1.length = 0 by omega)]; exact ⟨_, _, rfl, Nat.le_refl _, by simp, fun h => absurd rfl h⟩)
  subst hcap
  obtain ⟨⟨c0, c1, c2, c3, c4⟩, -⟩ := hrow
  dsimp only at c0 c1 c2 c3 c4
  have hbw : b < w.heap.size := World.block_lt_of_cell? w _ c0
  clear hlen hst ha hB hbB hsw
  have HRE : Hid (r = l1 ∧ (textF f (⟨1, name, peer, many, sort⟩ :: l1)).1 = name) := hide (by
    have h := HA.out
    rw [ahead_1 rfl] at h
    split at h
    · cases h; exact ⟨rfl, by cases f <;> rfl⟩
    · cases h)
  go_enter Tryz.func38, Tryz.ntmps38
  go_wp2_with fail
  go_region
  go_wp2_with fail
  go_ret2
  refine ⟨⟨_, by rw [HRE.out.2]; rfl, ?_⟩, (by repeat (first | exact alloc1 _ _ | exact Below.refl _ _ | refine Below.drew ?_))⟩
  rw [HRE.out.1]
  exact HSX.out.carry (Below.mono (by repeat (first | exact alloc1 _ _ | exact Below.refl _ _ | refine Below.drew ?_)) HB.out)

set_option maxRecDepth 100000 in
set_option maxHeartbeats 1000000 in
theorem itext2_b (part : Bool) (f : Nat) (hih : ∀ g, f = g + 1 → ITextCalls part g) (st : List Nd) (name peer : ByteArray) (many sort : Int) (l1 r : List Nd) (w : World) (B b o cap : Nat) (hlen : st.length + f = 10) (hst : StW st) (h40 : l1.length + 1 ≤ 40) (ha : ahead (talkS part) f st (⟨2, name, peer, many, sort⟩ :: l1) = some r) (hB : B ≤ w.heap.size) (hbB : b < B) (hc1 : l1.length + 1 ≤ cap) (hc2 : cap ≤ 9223372036854775807 ∧ l1.length < 4294967296) (hcap : cap ≠ 1) (hrow : RowAt w b o (⟨2, name, peer, many, sort⟩ :: l1)) (hsw : SortW w) :
    Calls Tryz.prog 38 #[.slice (some ⟨b, o, none⟩) (l1.length + 1) cap] w fun e w' => (∃ v', e = .returned (.tuple #[.string (textF f (⟨2, name, peer, many, sort⟩ :: l1)).1, v']) ∧ SlAt w' B v' r) ∧ Below w.heap.size w w' := by
  have HR := hide hrow
  have HL := hide hlen
  have HST := hide hst
  have HA := hide ha
  have HB := hide hB
  have HBB := hide hbB
  have HSW := hide hsw
  have HSX : Hid (SlAt w B (.slice (some ⟨b, o + 5, none⟩) l1.length (cap - 1)) l1) := hide (SlAt.tail hbB hrow (by simp; omega) hc2 _ (fun _ => rfl))
  obtain ⟨⟨c0, c1, c2, c3, c4⟩, -⟩ := hrow
  dsimp only at c0 c1 c2 c3 c4
  have hbw : b < w.heap.size := World.block_lt_of_cell? w _ c0
  clear hlen hst ha hB hbB hsw
  obtain ⟨g, hg, hgo, hw20, hstw⟩ : ∃ g, f = g + 1 ∧ ahead (talkS part) g (⟨2, name, peer, many, sort⟩ :: st) l1 = some r ∧ name.size ≤ 20 ∧ StW (⟨2, name, peer, many, sort⟩ :: st) := by
    have h := HA.out
    cases f with
    | zero => rw [ahead_20 rfl] at h; cases h
    | succ g =>
      rw [ahead_2 rfl] at h
      split at h
      · rename_i hv
        have hwn : name.size ≤ 20 := by simp only [recB, Bool.and_eq_true] at hv; exact word20 hv.1.2
        exact ⟨g, rfl, h, hwn, fun x hx h2 => by
          rcases List.mem_cons.1 hx with e | e
          · rw [e]; exact hwn
          · exact HST.out x e h2⟩
      · cases h
  subst hg
  have HIH := hide (hih g rfl)
  have HGO := hide hgo
  have HSTW := hide hstw
  obtain ⟨e1, s1⟩ := ahead_text part g _ l1 r hstw hgo
  obtain ⟨t1, ht1⟩ : ∃ t1, (textF g l1).1 = t1 := ⟨_, rfl⟩
  rw [ht1] at s1
  have HT1 := hide ht1
  have htz : t1.size ≤ 1720 := by omega
  have HRE : Hid ((textF (g + 1) (⟨2, name, peer, many, sort⟩ :: l1)).1 = ba [114, 101, 99] ++ ba [32] ++ name ++ ba [46] ++ t1) := hide (by rw [← HT1.out]; rfl)
  clear hih hgo hstw e1 s1 ht1
  go_enter Tryz.func38, Tryz.ntmps38
  go_wp2_with fail
  go_region
  go_wp2_with (first
    | (go_at_call 38; refine (HIH.out (⟨2, name, peer, many, sort⟩ :: st) l1 r _ _ B (by have := HL.out; simp; omega) HSTW.out (by omega) HGO.out (Nat.le_trans HB.out (Below.size (B := w.heap.size) (by repeat (first | exact alloc1 _ _ | exact Below.refl _ _ | refine Below.drew ?_)))) (HSX.out.carry (Below.mono (by repeat (first | exact alloc1 _ _ | exact Below.refl _ _ | refine Below.drew ?_)) HB.out)) (HSW.out.carry (by repeat (first | exact alloc1 _ _ | exact Below.refl _ _ | refine Below.drew ?_)))).mono ?_; rintro e w1 ⟨⟨v1, rfl, hs1⟩, hb1⟩; rw [HT1.out]; obtain ⟨d0, d1, d2, d3, d4⟩ := NodeAt.carry (B := _) (boxed w ⟨2, name, peer, many, sort⟩ 45) (by simp) hb1; dsimp only at d0 d1 d2 d3 d4; have hs1' : w.heap.size < w1.heap.size := (by have := hb1.size; simp at this; omega); have HS1 := hide hs1; obtain ⟨ao2, cap2, rfl, hs2⟩ := hs1; have HB1 : Hid (Below w.heap.size w w1) := hide (Below.trans (a := w) (b := _) (by repeat (first | exact alloc1 _ _ | exact Below.refl _ _ | refine Below.drew ?_)) (hb1.mono (by simp))); clear hb1 hs2)
    | (go_at_call 66; refine (join5 (ba [114, 101, 99]) (ba [32]) name (ba [46]) t1 _ _ (by simp) (by rw [sz_ba, sz_ba, sz_ba]; simp only [List.length_cons, List.length_nil]; omega)).mono ?_; rintro e w2 ⟨rfl, hb2⟩; have HB2 := hide hb2; clear hb2))
  go_ret2
  refine ⟨⟨_, by rw [HRE.out]; rfl, HS1.out.carry (HB2.out.mono (Nat.le_trans HB.out HB1.out.size))⟩, HB1.out.trans (HB2.out.mono HB1.out.size)⟩

set_option maxRecDepth 100000 in
set_option maxHeartbeats 1000000 in
theorem itext2_a (part : Bool) (f : Nat) (hih : ∀ g, f = g + 1 → ITextCalls part g) (st : List Nd) (name peer : ByteArray) (many sort : Int) (l1 r : List Nd) (w : World) (B b o cap : Nat) (hlen : st.length + f = 10) (hst : StW st) (h40 : l1.length + 1 ≤ 40) (ha : ahead (talkS part) f st (⟨2, name, peer, many, sort⟩ :: l1) = some r) (hB : B ≤ w.heap.size) (hbB : b < B) (hc1 : l1.length + 1 ≤ cap) (hc2 : cap ≤ 9223372036854775807 ∧ l1.length < 4294967296) (hcap : cap = 1) (hrow : RowAt w b o (⟨2, name, peer, many, sort⟩ :: l1)) (hsw : SortW w) :
    Calls Tryz.prog 38 #[.slice (some ⟨b, o, none⟩) (l1.length + 1) cap] w fun e w' => (∃ v', e = .returned (.tuple #[.string (textF f (⟨2, name, peer, many, sort⟩ :: l1)).1, v']) ∧ SlAt w' B v' r) ∧ Below w.heap.size w w' := by
  have HR := hide hrow
  have HL := hide hlen
  have HST := hide hst
  have HA := hide ha
  have HB := hide hB
  have HBB := hide hbB
  have HSW := hide hsw
  have HSX : Hid (SlAt w B (.slice (some ⟨b, o, none⟩) 0 0) l1) := hide (by rw [List.length_eq_zero_iff.1 (show l1.length = 0 by omega)]; exact ⟨_, _, rfl, Nat.le_refl _, by simp, fun h => absurd rfl h⟩)
  subst hcap
  obtain ⟨⟨c0, c1, c2, c3, c4⟩, -⟩ := hrow
  dsimp only at c0 c1 c2 c3 c4
  have hbw : b < w.heap.size := World.block_lt_of_cell? w _ c0
  clear hlen hst ha hB hbB hsw
  obtain ⟨g, hg, hgo, hw20, hstw⟩ : ∃ g, f = g + 1 ∧ ahead (talkS part) g (⟨2, name, peer, many, sort⟩ :: st) l1 = some r ∧ name.size ≤ 20 ∧ StW (⟨2, name, peer, many, sort⟩ :: st) := by
    have h := HA.out
    cases f with
    | zero => rw [ahead_20 rfl] at h; cases h
    | succ g =>
      rw [ahead_2 rfl] at h
      split at h
      · rename_i hv
        have hwn : name.size ≤ 20 := by simp only [recB, Bool.and_eq_true] at hv; exact word20 hv.1.2
        exact ⟨g, rfl, h, hwn, fun x hx h2 => by
          rcases List.mem_cons.1 hx with e | e
          · rw [e]; exact hwn
          · exact HST.out x e h2⟩
      · cases h
  subst hg
  have HIH := hide (hih g rfl)
  have HGO := hide hgo
  have HSTW := hide hstw
  obtain ⟨e1, s1⟩ := ahead_text part g _ l1 r hstw hgo
  obtain ⟨t1, ht1⟩ : ∃ t1, (textF g l1).1 = t1 := ⟨_, rfl⟩
  rw [ht1] at s1
  have HT1 := hide ht1
  have htz : t1.size ≤ 1720 := by omega
  have HRE : Hid ((textF (g + 1) (⟨2, name, peer, many, sort⟩ :: l1)).1 = ba [114, 101, 99] ++ ba [32] ++ name ++ ba [46] ++ t1) := hide (by rw [← HT1.out]; rfl)
  clear hih hgo hstw e1 s1 ht1
  go_enter Tryz.func38, Tryz.ntmps38
  go_wp2_with fail
  go_region
  go_wp2_with (first
    | (go_at_call 38; refine (HIH.out (⟨2, name, peer, many, sort⟩ :: st) l1 r _ _ B (by have := HL.out; simp; omega) HSTW.out (by omega) HGO.out (Nat.le_trans HB.out (Below.size (B := w.heap.size) (by repeat (first | exact alloc1 _ _ | exact Below.refl _ _ | refine Below.drew ?_)))) (HSX.out.carry (Below.mono (by repeat (first | exact alloc1 _ _ | exact Below.refl _ _ | refine Below.drew ?_)) HB.out)) (HSW.out.carry (by repeat (first | exact alloc1 _ _ | exact Below.refl _ _ | refine Below.drew ?_)))).mono ?_; rintro e w1 ⟨⟨v1, rfl, hs1⟩, hb1⟩; rw [HT1.out]; obtain ⟨d0, d1, d2, d3, d4⟩ := NodeAt.carry (B := _) (boxed w ⟨2, name, peer, many, sort⟩ 45) (by simp) hb1; dsimp only at d0 d1 d2 d3 d4; have hs1' : w.heap.size < w1.heap.size := (by have := hb1.size; simp at this; omega); have HS1 := hide hs1; obtain ⟨ao2, cap2, rfl, hs2⟩ := hs1; have HB1 : Hid (Below w.heap.size w w1) := hide (Below.trans (a := w) (b := _) (by repeat (first | exact alloc1 _ _ | exact Below.refl _ _ | refine Below.drew ?_)) (hb1.mono (by simp))); clear hb1 hs2)
    | (go_at_call 66; refine (join5 (ba [114, 101, 99]) (ba [32]) name (ba [46]) t1 _ _ (by simp) (by rw [sz_ba, sz_ba, sz_ba]; simp only [List.length_cons, List.length_nil]; omega)).mono ?_; rintro e w2 ⟨rfl, hb2⟩; have HB2 := hide hb2; clear hb2))
  go_ret2
  refine ⟨⟨_, by rw [HRE.out]; rfl, HS1.out.carry (HB2.out.mono (Nat.le_trans HB.out HB1.out.size))⟩, HB1.out.trans (HB2.out.mono HB1.out.size)⟩
end Go.Proofs.YtmjlblbhakppfaaGreatDoor
namespace Go.Proofs.YtmjlblbhakppfaaGreatDoor
open Go.RowKit

set_option maxRecDepth 100000 in
set_option maxHeartbeats 1000000 in
theorem itext3_b (part : Bool) (f : Nat) (hih : ∀ g, f = g + 1 → ITextCalls part g) (st : List Nd) (name peer : ByteArray) (many sort : Int) (l1 r : List Nd) (w : World) (B b o cap : Nat) (hlen : st.length + f = 10) (hst : StW st) (h40 : l1.length + 1 ≤ 40) (ha : ahead (talkS part) f st (⟨3, name, peer, many, sort⟩ :: l1) = some r) (hB : B ≤ w.heap.size) (hbB : b < B) (hc1 : l1.length + 1 ≤ cap) (hc2 : cap ≤ 9223372036854775807 ∧ l1.length < 4294967296) (hcap : cap ≠ 1) (hrow : RowAt w b o (⟨3, name, peer, many, sort⟩ :: l1)) (hsw : SortW w) :
    Calls Tryz.prog 38 #[.slice (some ⟨b, o, none⟩) (l1.length + 1) cap] w fun e w' => (∃ v', e = .returned (.tuple #[.string (textF f (⟨3, name, peer, many, sort⟩ :: l1)).1, v']) ∧ SlAt w' B v' r) ∧ Below w.heap.size w w' := by
  have HR := hide hrow
  have HL := hide hlen
  have HST := hide hst
  have HA := hide ha
  have HB := hide hB
  have HBB := hide hbB
  have HSW := hide hsw
  have HSX : Hid (SlAt w B (.slice (some ⟨b, o + 5, none⟩) l1.length (cap - 1)) l1) := hide (SlAt.tail hbB hrow (by simp; omega) hc2 _ (fun _ => rfl))
  obtain ⟨⟨c0, c1, c2, c3, c4⟩, -⟩ := hrow
  dsimp only at c0 c1 c2 c3 c4
  have hbw : b < w.heap.size := World.block_lt_of_cell? w _ c0
  clear hlen hst ha hB hbB hsw
  obtain ⟨g, hg, hgo, hts, hstw⟩ : ∃ g, f = g + 1 ∧ kidsBy (ahead (talkS part) g (⟨3, name, peer, many, sort⟩ :: st)) many.toNat [] l1 = some r ∧ talkS part ⟨3, name, peer, many, sort⟩ = true ∧ StW (⟨3, name, peer, many, sort⟩ :: st) := by
    have h := HA.out
    cases f with
    | zero => rw [ahead_t0 (by simp) (by simp)] at h; cases h
    | succ g =>
      rw [ahead_t (by simp) (by simp) (by simp)] at h
      split at h
      · rename_i hv
        exact ⟨g, rfl, h, hv, fun x hx h2 => by
          rcases List.mem_cons.1 hx with e | e
          · rw [e] at h2; simp at h2
          · exact HST.out x e h2⟩
      · cases h
  subst hg
  have HIH := hide (hih g rfl)
  have HGO := hide hgo
  have HSTW := hide hstw
  have hsz := talk_sz hts
  have hm14 : 1 ≤ many.toNat ∧ many.toNat ≤ 4 ∧ many = (many.toNat : Int) := by simp only [talkS, manyB, Bool.and_eq_true, decide_eq_true_eq] at hts; omega
  have hpz : peer.size ≤ 20 := by simp only [talkS, Bool.and_eq_true] at hts; exact word20 hts.1.1.1
  have hnz : name.size ≤ 20 := by
    simp only [talkS, Bool.and_eq_true] at hts
    cases part
    · simp at hts <;> first | exact word20 hts.2.1 | exact word20 hts.2.1.2
    · simp at hts <;> (
        have h0 : name.data.toList = [] := by rw [← Go.ByteArray.toList_eq]; simp [hts]
        have h3 : name.size = name.data.toList.length := rfl
        rw [h3, h0]; simp)
  obtain ⟨e1, s1, n1⟩ := kids_text (fun l r => ahead_text part g _ l r hstw) _ _ _ _ hgo
  obtain ⟨m, hmm⟩ : ∃ m, many.toNat = m := ⟨_, rfl⟩
  rw [hmm] at hm14 s1
  obtain ⟨hm1, hm4, hmI⟩ := hm14
  have HMM := hide hmm
  subst hmI
  obtain ⟨t1, ht1⟩ : ∃ t1, joinC (casesF (textF g) m l1).1 = t1 := ⟨_, rfl⟩
  have HT1 := hide ht1
  have htz : t1.size ≤ 1720 := by rw [← ht1]; have := joinC_sz (casesF (textF g) m l1).1; omega
  have HGO2 : Hid (kidsBy (ahead (talkS part) g (⟨3, name, peer, m, sort⟩ :: st)) m [] l1 = some r) := hide (by have := HGO.out; rwa [HMM.out] at this)
  obtain ⟨tt, htt⟩ : ∃ tt, talkT ⟨3, name, peer, m, sort⟩ = tt := ⟨_, rfl⟩
  have HTT := hide htt
  have httz : tt.size ≤ 41 := by rw [← htt]; exact hsz
  have HRE : Hid ((textF (g + 1) (⟨3, name, peer, m, sort⟩ :: l1)).1 = tt ++ ba [123] ++ t1 ++ ba [125]) := hide (by rw [← HTT.out, ← HT1.out]; rfl)
  clear hih hgo hstw e1 s1 n1 ht1 hts htt hmm hsz HGO HA
  go_enter Tryz.func38, Tryz.ntmps38
  go_wp2_with fail
  go_region
  go_wp2_with (first
    | (go_at_call 67; refine (cases_text part g HIH.out (⟨3, name, peer, m, sort⟩ :: st) l1 r m _ _ B (by have := HL.out; simp; omega) HSTW.out (by omega) ⟨hm1, hm4⟩ HGO2.out (Nat.le_trans HB.out (Below.size (B := w.heap.size) (by repeat (first | exact alloc1 _ _ | exact Below.refl _ _ | refine Below.drew ?_)))) (HSX.out.carry (Below.mono (by repeat (first | exact alloc1 _ _ | exact Below.refl _ _ | refine Below.drew ?_)) HB.out)) (HSW.out.carry (by repeat (first | exact alloc1 _ _ | exact Below.refl _ _ | refine Below.drew ?_)))).mono ?_; rintro e w1 ⟨⟨v1, rfl, hs1⟩, hb1⟩; rw [HT1.out]; obtain ⟨d0, d1, d2, d3, d4⟩ := NodeAt.carry (B := _) (boxed w ⟨3, name, peer, m, sort⟩ 45) (by simp) hb1; dsimp only at d0 d1 d2 d3 d4; have hs1' : w.heap.size < w1.heap.size := (by have := hb1.size; simp at this; omega); have HS1 := hide hs1; obtain ⟨ao2, cap2, rfl, hs2⟩ := hs1; have HB1 : Hid (Below w.heap.size w w1) := hide (Below.trans (a := w) (b := _) (by repeat (first | exact alloc1 _ _ | exact Below.refl _ _ | refine Below.drew ?_)) (hb1.mono (by simp))); clear hb1 hs2)
    | (go_at_call 68; refine (i_talkText ⟨3, name, peer, m, sort⟩ _ (by simp only; omega) (by simp only; omega)).mono ?_; rintro e w2 ⟨rfl, hb2⟩; rw [HTT.out]; have HB2 := hide hb2; clear hb2)
    | (go_at_call 66; refine (join4 tt (ba [123]) t1 (ba [125]) _ _ (by first | rfl | simp) (by rw [sz_ba, sz_ba]; simp only [List.length_cons, List.length_nil]; omega)).mono ?_; rintro e w3 ⟨rfl, hb3⟩; have HB3 := hide hb3; clear hb3))
  go_ret2
  refine ⟨⟨_, by rw [HRE.out]; rfl, (HS1.out.carry (HB2.out.mono (Nat.le_trans HB.out HB1.out.size))).carry (HB3.out.mono (Nat.le_trans HB.out (Nat.le_trans HB1.out.size HB2.out.size)))⟩, (HB1.out.trans (HB2.out.mono HB1.out.size)).trans (HB3.out.mono (Nat.le_trans HB1.out.size HB2.out.size))⟩

set_option maxRecDepth 100000 in
set_option maxHeartbeats 1000000 in
theorem itext3_a (part : Bool) (f : Nat) (hih : ∀ g, f = g + 1 → ITextCalls part g) (st : List Nd) (name peer : ByteArray) (many sort : Int) (l1 r : List Nd) (w : World) (B b o cap : Nat) (hlen : st.length + f = 10) (hst : StW st) (h40 : l1.length + 1 ≤ 40) (ha : ahead (talkS part) f st (⟨3, name, peer, many, sort⟩ :: l1) = some r) (hB : B ≤ w.heap.size) (hbB : b < B) (hc1 : l1.length + 1 ≤ cap) (hc2 : cap ≤ 9223372036854775807 ∧ l1.length < 4294967296) (hcap : cap = 1) (hrow : RowAt w b o (⟨3, name, peer, many, sort⟩ :: l1)) (hsw : SortW w) :
    Calls Tryz.prog 38 #[.slice (some ⟨b, o, none⟩) (l1.length + 1) cap] w fun e w' => (∃ v', e = .returned (.tuple #[.string (textF f (⟨3, name, peer, many, sort⟩ :: l1)).1, v']) ∧ SlAt w' B v' r) ∧ Below w.heap.size w w' := by
  have HR := hide hrow
  have HL := hide hlen
  have HST := hide hst
  have HA := hide ha
  have HB := hide hB
  have HBB := hide hbB
  have HSW := hide hsw
  have HSX : Hid (SlAt w B (.slice (some ⟨b, o, none⟩) 0 0) l1) := hide (by rw [List.length_eq_zero_iff.1 (show l1.length = 0 by omega)]; exact ⟨_, _, rfl, Nat.le_refl _, by simp, fun h => absurd rfl h⟩)
  subst hcap
  obtain ⟨⟨c0, c1, c2, c3, c4⟩, -⟩ := hrow
  dsimp only at c0 c1 c2 c3 c4
  have hbw : b < w.heap.size := World.block_lt_of_cell? w _ c0
  clear hlen hst ha hB hbB hsw
  obtain ⟨g, hg, hgo, hts, hstw⟩ : ∃ g, f = g + 1 ∧ kidsBy (ahead (talkS part) g (⟨3, name, peer, many, sort⟩ :: st)) many.toNat [] l1 = some r ∧ talkS part ⟨3, name, peer, many, sort⟩ = true ∧ StW (⟨3, name, peer, many, sort⟩ :: st) := by
    have h := HA.out
    cases f with
    | zero => rw [ahead_t0 (by simp) (by simp)] at h; cases h
    | succ g =>
      rw [ahead_t (by simp) (by simp) (by simp)] at h
      split at h
      · rename_i hv
        exact ⟨g, rfl, h, hv, fun x hx h2 => by
          rcases List.mem_cons.1 hx with e | e
          · rw [e] at h2; simp at h2
          · exact HST.out x e h2⟩
      · cases h
  subst hg
  have HIH := hide (hih g rfl)
  have HGO := hide hgo
  have HSTW := hide hstw
  have hsz := talk_sz hts
  have hm14 : 1 ≤ many.toNat ∧ many.toNat ≤ 4 ∧ many = (many.toNat : Int) := by simp only [talkS, manyB, Bool.and_eq_true, decide_eq_true_eq] at hts; omega
  have hpz : peer.size ≤ 20 := by simp only [talkS, Bool.and_eq_true] at hts; exact word20 hts.1.1.1
  have hnz : name.size ≤ 20 := by
    simp only [talkS, Bool.and_eq_true] at hts
    cases part
    · simp at hts <;> first | exact word20 hts.2.1 | exact word20 hts.2.1.2
    · simp at hts <;> (
        have h0 : name.data.toList = [] := by rw [← Go.ByteArray.toList_eq]; simp [hts]
        have h3 : name.size = name.data.toList.length := rfl
        rw [h3, h0]; simp)
  obtain ⟨e1, s1, n1⟩ := kids_text (fun l r => ahead_text part g _ l r hstw) _ _ _ _ hgo
  obtain ⟨m, hmm⟩ : ∃ m, many.toNat = m := ⟨_, rfl⟩
  rw [hmm] at hm14 s1
  obtain ⟨hm1, hm4, hmI⟩ := hm14
  have HMM := hide hmm
  subst hmI
  obtain ⟨t1, ht1⟩ : ∃ t1, joinC (casesF (textF g) m l1).1 = t1 := ⟨_, rfl⟩
  have HT1 := hide ht1
  have htz : t1.size ≤ 1720 := by rw [← ht1]; have := joinC_sz (casesF (textF g) m l1).1; omega
  have HGO2 : Hid (kidsBy (ahead (talkS part) g (⟨3, name, peer, m, sort⟩ :: st)) m [] l1 = some r) := hide (by have := HGO.out; rwa [HMM.out] at this)
  obtain ⟨tt, htt⟩ : ∃ tt, talkT ⟨3, name, peer, m, sort⟩ = tt := ⟨_, rfl⟩
  have HTT := hide htt
  have httz : tt.size ≤ 41 := by rw [← htt]; exact hsz
  have HRE : Hid ((textF (g + 1) (⟨3, name, peer, m, sort⟩ :: l1)).1 = tt ++ ba [123] ++ t1 ++ ba [125]) := hide (by rw [← HTT.out, ← HT1.out]; rfl)
  clear hih hgo hstw e1 s1 n1 ht1 hts htt hmm hsz HGO HA
  go_enter Tryz.func38, Tryz.ntmps38
  go_wp2_with fail
  go_region
  go_wp2_with (first
    | (go_at_call 67; refine (cases_text part g HIH.out (⟨3, name, peer, m, sort⟩ :: st) l1 r m _ _ B (by have := HL.out; simp; omega) HSTW.out (by omega) ⟨hm1, hm4⟩ HGO2.out (Nat.le_trans HB.out (Below.size (B := w.heap.size) (by repeat (first | exact alloc1 _ _ | exact Below.refl _ _ | refine Below.drew ?_)))) (HSX.out.carry (Below.mono (by repeat (first | exact alloc1 _ _ | exact Below.refl _ _ | refine Below.drew ?_)) HB.out)) (HSW.out.carry (by repeat (first | exact alloc1 _ _ | exact Below.refl _ _ | refine Below.drew ?_)))).mono ?_; rintro e w1 ⟨⟨v1, rfl, hs1⟩, hb1⟩; rw [HT1.out]; obtain ⟨d0, d1, d2, d3, d4⟩ := NodeAt.carry (B := _) (boxed w ⟨3, name, peer, m, sort⟩ 45) (by simp) hb1; dsimp only at d0 d1 d2 d3 d4; have hs1' : w.heap.size < w1.heap.size := (by have := hb1.size; simp at this; omega); have HS1 := hide hs1; obtain ⟨ao2, cap2, rfl, hs2⟩ := hs1; have HB1 : Hid (Below w.heap.size w w1) := hide (Below.trans (a := w) (b := _) (by repeat (first | exact alloc1 _ _ | exact Below.refl _ _ | refine Below.drew ?_)) (hb1.mono (by simp))); clear hb1 hs2)
    | (go_at_call 68; refine (i_talkText ⟨3, name, peer, m, sort⟩ _ (by simp only; omega) (by simp only; omega)).mono ?_; rintro e w2 ⟨rfl, hb2⟩; rw [HTT.out]; have HB2 := hide hb2; clear hb2)
    | (go_at_call 66; refine (join4 tt (ba [123]) t1 (ba [125]) _ _ (by first | rfl | simp) (by rw [sz_ba, sz_ba]; simp only [List.length_cons, List.length_nil]; omega)).mono ?_; rintro e w3 ⟨rfl, hb3⟩; have HB3 := hide hb3; clear hb3))
  go_ret2
  refine ⟨⟨_, by rw [HRE.out]; rfl, (HS1.out.carry (HB2.out.mono (Nat.le_trans HB.out HB1.out.size))).carry (HB3.out.mono (Nat.le_trans HB.out (Nat.le_trans HB1.out.size HB2.out.size)))⟩, (HB1.out.trans (HB2.out.mono HB1.out.size)).trans (HB3.out.mono (Nat.le_trans HB1.out.size HB2.out.size))⟩
end Go.Proofs.YtmjlblbhakppfaaGreatDoor
namespace Go.Proofs.YtmjlblbhakppfaaGreatDoor
open Go.RowKit

abbrev Sk := List (Option ByteArray)
def skOf (st : List Nd) : Sk := st.map fun n => if n.op == 2 then some n.name else none
def wB (sk : Sk) (x : ByteArray) : Bool := sk.any fun o => match o with | some y => y.toList == x.toList | none => false
def bB (said : Bool) : Sk → ByteArray → Bool
  | [], _ => false
  | some y :: sk, x => if y.toList == x.toList then said else bB said sk x
  | none :: sk, x => bB true sk x
theorem within_sk : ∀ (st : List Nd) (x : ByteArray), withinB st x = wB (skOf st) x
  | [], _ => rfl
  | n :: st, x => by
    have ih := within_sk st x
    unfold withinB wB skOf at *
    rw [List.map_cons, List.any_cons, List.any_cons, ih]
    cases h : (n.op == 2)
    · simp
    · simp
theorem back_sk : ∀ (st : List Nd) (s : Bool) (x : ByteArray), backB s st x = bB s (skOf st) x
  | [], _, _ => rfl
  | n :: st, s, x => by
    have ih := back_sk st
    rw [backB]
    show _ = bB s ((if n.op == 2 then some n.name else none) :: skOf st) x
    cases h : (n.op == 2)
    · simp only [Bool.false_eq_true, if_false]
      exact ih true x
    · simp only [if_true]
      rw [bB, ih]
def labs {α : Type} (l : List (Br α)) : Prop := (l.map (·.l)).Nodup ∧ ∀ b ∈ l, wordB b.l = true ∧ sortB b.s = true
def leafG (sk : Sk) : Option ByteArray → Prop
  | none => True
  | some x => bB false sk x = true
def gP (A : Tk → Prop) : (n : Nat) → Sk → Pn n → Prop
  | 0, sk, x => leafG sk x
  | n + 1, sk, p => p.by (leafG sk) (fun x q => wordB x = true ∧ wB sk x = false ∧ gP A n (some x :: sk) q) (fun t l => A t ∧ 1 ≤ l.length ∧ l.length ≤ 4 ∧ labs l ∧ ∀ b ∈ l, gP A n (none :: sk) b.p)
def leafH (sk : Sk) : Option ByteArray → Prop
  | none => True
  | some x => wB sk x = true
def gH (A : Tk → Prop) : (n : Nat) → Sk → Pn n → Prop
  | 0, sk, x => leafH sk x
  | n + 1, sk, p => p.by (leafH sk) (fun x q => wordB x = true ∧ wB sk x = false ∧ gH A n (some x :: sk) q) (fun t l => A t ∧ 1 ≤ l.length ∧ l.length ≤ 4 ∧ labs l ∧ ∀ b ∈ l, gP A n (none :: sk) b.p)

theorem noT_list : (noT.toList == []) = true := by rw [Go.ByteArray.toList_eq]; rfl
theorem nodup_end {l : List ByteArray} {x : ByteArray} (h : l.Nodup) (hx : x ∉ l) : (l ++ [x]).Nodup := by
  rw [List.nodup_append]
  exact ⟨h, by simp, fun a ha b hb e => hx (by simp at hb; rw [← hb, ← e]; exact ha)⟩
theorem kids_g {n : Nat} {A : Tk → Prop} {sk : Sk} {go : List Nd → Option (List Nd)} {Q : Pn n → Prop} (hgo : ∀ (p : Pn n) r r', Q p → go (rowN n p ++ r) = some r' → gP A n sk p ∧ r' = r) : ∀ (l : List (Br (Pn n))) (ls : List ByteArray) (r r' : List Nd), (∀ b ∈ l, Q b.p) → ls.Nodup → kidsBy go l.length ls (brsBy (rowN n) l ++ r) = some r' → (ls ++ l.map (·.l)).Nodup ∧ (∀ b ∈ l, (wordB b.l = true ∧ sortB b.s = true) ∧ gP A n sk b.p) ∧ r' = r
  | [], ls, r, r', _, hn, h => by
    rw [List.length_nil, kidsBy] at h
    injection h with h
    exact ⟨by simpa using hn, fun b hb => (by cases hb), h.symm⟩
  | b :: l, ls, r, r', hq, hn, h => by
    rw [brs_cons, List.length_cons, List.cons_append, kidsBy] at h
    split at h
    · rename_i hc
      rw [Bool.and_eq_true] at hc
      obtain ⟨hc1, hc2⟩ := hc
      split at h
      · cases h
      · rename_i r1 hr1
        rw [List.append_assoc] at hr1
        obtain ⟨hg, rfl⟩ := hgo b.p _ _ (hq b List.mem_cons_self) hr1
        have hx : b.l ∉ ls := fun hm => by rw [has_iff.2 hm] at hc2; cases hc2
        obtain ⟨h1, h2, h3⟩ := kids_g hgo l (ls ++ [b.l]) r r' (fun d hd => hq d (List.mem_cons_of_mem _ hd)) (nodup_end hn hx) h
        refine ⟨by rw [List.map_cons]; simpa using h1, fun d hd => ?_, h3⟩
        rcases List.mem_cons.1 hd with rfl | hd
        · simp only [caseB, Bool.and_eq_true] at hc1
          exact ⟨⟨hc1.1.2, hc1.2⟩, hg⟩
        · exact h2 d hd
    · cases h
theorem g_kids {n : Nat} {A : Tk → Prop} {sk : Sk} {go : List Nd → Option (List Nd)} (hgo : ∀ (p : Pn n) r, gP A n sk p → go (rowN n p ++ r) = some r) : ∀ (l : List (Br (Pn n))) (ls : List ByteArray) (r : List Nd), (ls ++ l.map (·.l)).Nodup → (∀ b ∈ l, (wordB b.l = true ∧ sortB b.s = true) ∧ gP A n sk b.p) → kidsBy go l.length ls (brsBy (rowN n) l ++ r) = some r
  | [], ls, r, _, _ => by rw [List.length_nil, kidsBy]; rfl
  | b :: l, ls, r, hn, h => by
    obtain ⟨⟨hw, hs⟩, hg⟩ := h b (List.mem_cons_self)
    have hx : b.l ∉ ls := fun hm => by
      rw [List.nodup_append] at hn
      exact hn.2.2 _ hm b.l (by simp) rfl
    have hc : (caseB (⟨4, b.l, noT, 0, b.s⟩ : Nd) && !hasB ls b.l) = true := by
      have h1 : hasB ls b.l = false := by
        cases hh : hasB ls b.l with
        | false => rfl
        | true => exact absurd (has_iff.1 hh) hx
      rw [h1]
      simp only [caseB, Bool.and_eq_true]
      refine ⟨⟨⟨⟨⟨by rfl, noT_list⟩, by rfl⟩, hw⟩, hs⟩, by rfl⟩
    rw [brs_cons, List.length_cons, List.cons_append, kidsBy, if_pos hc, List.append_assoc, hgo b.p _ hg]
    exact g_kids hgo l (ls ++ [b.l]) r (by rw [List.map_cons] at hn; simpa using hn) (fun d hd => h d (List.mem_cons_of_mem _ hd))
def tkPlan (t : Tk) : Prop := t.op = 3 ∧ wordB t.a = true ∧ wordB t.b = true ∧ (t.a.toList == t.b.toList) = false
def tkPart (t : Tk) : Prop := (t.op = 5 ∨ t.op = 6) ∧ t.a = noT ∧ wordB t.b = true
theorem g_of_ahead : ∀ (n : Nat) (p : Pn n) (st r r' : List Nd), planN n p → ahead (talkS false) n st (rowN n p ++ r) = some r' → gP tkPlan n (skOf st) p ∧ r' = r := by
  have leaf : ∀ (n : Nat) (x : Option ByteArray) (st r r' : List Nd), ahead (talkS false) n st (leafRow x ++ r) = some r' → leafG (skOf st) x ∧ r' = r := by
    intro n x st r r' h
    cases x with
    | none =>
      rw [leafRow, List.singleton_append, ahead_0 rfl] at h
      rw [if_pos (by simp [endB])] at h
      injection h with h
      exact ⟨trivial, h.symm⟩
    | some x =>
      rw [leafRow, List.singleton_append, ahead_1 rfl] at h
      split at h
      · rename_i hc
        rw [Bool.and_eq_true, back_sk] at hc
        injection h with h
        exact ⟨hc.2, h.symm⟩
      · cases h
  intro n
  induction n with
  | zero => intro p st r r' _ h; exact leaf 0 p st r r' h
  | succ n ih =>
    intro p
    refine Pn.cases (P := fun p => ∀ (st r r' : List Nd), planN (n + 1) p → ahead (talkS false) (n + 1) st (rowN (n + 1) p ++ r) = some r' → gP tkPlan (n + 1) (skOf st) p ∧ r' = r) (fun x => ?_) (fun x q => ?_) (fun t l => ?_) p
    · intro st r r' _ h
      exact leaf (n + 1) x st r r' h
    · intro st r r' hp h
      rw [row_loop, List.cons_append, ahead_2 rfl] at h
      split at h
      · rename_i hc
        rw [Bool.and_eq_true, within_sk] at hc
        obtain ⟨h1, h2⟩ := ih q _ r r' hp h
        simp only [recB, Bool.and_eq_true] at hc
        exact ⟨⟨hc.1.2, by simpa using hc.2, h1⟩, h2⟩
      · cases h
    · intro st r r' hp h
      obtain ⟨h3, hne, hl1, hl4, hbs⟩ := hp
      obtain ⟨op, a, b⟩ := t
      dsimp only at h3
      subst h3
      rw [row_talk, List.cons_append, ahead_t (show (3 : Int) ≠ 0 by decide) (show (3 : Int) ≠ 1 by decide) (show (3 : Int) ≠ 2 by decide)] at h
      split at h
      · rename_i hc
        simp only [talkS, Bool.and_eq_true, Bool.false_eq_true, if_false] at hc
        have hm : ((l.length : Int)).toNat = l.length := by omega
        dsimp only at h
        rw [hm] at h
        obtain ⟨k1, k2, k3⟩ := kids_g (A := tkPlan) (sk := none :: skOf st) (Q := planN n) (fun p r r' hq hh => ih p (⟨3, a, b, (l.length : Int), 0⟩ :: st) r r' hq hh) l [] r r' hbs List.nodup_nil h
        exact ⟨⟨⟨rfl, hc.2.1.2, hc.1.1.1, hne⟩, hl1, hl4, ⟨by simpa using k1, fun b hb => (k2 b hb).1⟩, fun b hb => (k2 b hb).2⟩, k3⟩
      · cases h
theorem ahead_of_g : ∀ (n : Nat) (p : Pn n) (st r : List Nd), gP tkPart n (skOf st) p → ahead (talkS true) n st (rowN n p ++ r) = some r := by
  have leaf : ∀ (n : Nat) (x : Option ByteArray) (st r : List Nd), leafG (skOf st) x → ahead (talkS true) n st (leafRow x ++ r) = some r := by
    intro n x st r h
    cases x with
    | none =>
      rw [leafRow, List.singleton_append, ahead_0 rfl, if_pos (by simp [endB])]
    | some x =>
      rw [leafRow, List.singleton_append, ahead_1 rfl, if_pos]
      rw [Bool.and_eq_true, back_sk]
      exact ⟨by simp [varB], h⟩
  intro n
  induction n with
  | zero => intro p st r h; exact leaf 0 p st r h
  | succ n ih =>
    intro p
    refine Pn.cases (P := fun p => ∀ (st r : List Nd), gP tkPart (n + 1) (skOf st) p → ahead (talkS true) (n + 1) st (rowN (n + 1) p ++ r) = some r) (fun x => ?_) (fun x q => ?_) (fun t l => ?_) p
    · intro st r h
      exact leaf (n + 1) x st r h
    · intro st r h
      obtain ⟨h1, h2, h3⟩ := h
      rw [row_loop, List.cons_append, ahead_2 rfl, if_pos]
      · exact ih q (⟨2, x, noT, 0, 0⟩ :: st) r h3
      · rw [Bool.and_eq_true, within_sk]
        exact ⟨by simp [recB, h1], by simp [h2]⟩
    · intro st r h
      obtain ⟨⟨hop, ha, hw⟩, hl1, hl4, hlb, hbs⟩ := h
      obtain ⟨op, a, b⟩ := t
      dsimp only at hop ha hw
      subst ha
      have h0 : op ≠ 0 := by omega
      have h1 : op ≠ 1 := by omega
      have h2 : op ≠ 2 := by omega
      have hm : ((l.length : Int)).toNat = l.length := by omega
      rw [row_talk, List.cons_append, ahead_t h0 h1 h2, if_pos]
      · dsimp only
        rw [hm]
        refine g_kids (A := tkPart) (sk := none :: skOf st) (fun p r hp => ?_) l [] r (by simpa using hlb.1) (fun b hb => ⟨hlb.2 b hb, hbs b hb⟩)
        have e : none :: skOf st = skOf (⟨op, noT, b, (l.length : Int), 0⟩ :: st) := by
          show _ = (if op == 2 then some noT else none) :: skOf st
          rw [if_neg (by simpa using h2)]
        rw [e] at hp
        exact ih p _ r hp
      · simp only [talkS, manyB, Bool.and_eq_true, if_true, decide_eq_true_eq, Bool.or_eq_true, beq_iff_eq]
        exact ⟨⟨⟨hw, by omega, by omega⟩, trivial⟩, by simp, hop⟩
end Go.Proofs.YtmjlblbhakppfaaGreatDoor
