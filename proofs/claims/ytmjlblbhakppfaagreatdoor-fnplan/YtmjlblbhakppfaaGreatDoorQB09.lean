/- rowAhead: at every row of Nodes and place. -/
import Derived.Test.YtmjlblbhakppfaaGreatDoorQB07
namespace Go.Proofs.YtmjlblbhakppfaaGreatDoor
open Go.RowKit

set_option maxRecDepth 100000 in
set_option maxHeartbeats 1000000 in
theorem msg5_step_b (f : Nat) (hih : ∀ g, f = g + 1 → PlanCalls g) (st : List Nd) (name peer : ByteArray) (many sort : Int) (l1 : List Nd) (p : Value) (w : World) (B b o cap : Nat) (hlen : st.length + f = 10) (ok : ∀ x ∈ ⟨5, name, peer, many, sort⟩ :: l1, x.ok) (hB : B ≤ w.heap.size) (hbB : b < B) (hc1 : (⟨5, name, peer, many, sort⟩ :: l1).length ≤ cap) (hc2 : cap ≤ 9223372036854775807 ∧ l1.length < 4294967296) (hcap : cap ≠ 1) (hrow : RowAt w b o (⟨5, name, peer, many, sort⟩ :: l1)) (hp : PlaceAt w p st) :
    Calls Tryz.prog 80 #[.slice (some ⟨b, o, none⟩) (⟨5, name, peer, many, sort⟩ :: l1 : List Nd).length cap, p] w fun e w' => Told w' B e (ahead talkI f st (⟨5, name, peer, many, sort⟩ :: l1)) ∧ Below w.heap.size w w' := by
  have HP := hide hp
  have HO := hide ok
  have HN := hide (ok ⟨5, name, peer, many, sort⟩ (by simp))
  have HL := hide hlen
  have HB := hide hB
  have HBB := hide hbB
  have HR := hide hrow
  have HC1 := hide hc1
  have HC2 := hide hc2
  obtain ⟨u, rfl⟩ := hp.shape
  have hc0 := hc1
  simp only [List.length_cons] at hc1
  have hrow0 := hrow
  obtain ⟨⟨c0, c1, c2, c3, c4⟩, -⟩ := hrow
  dsimp only at c0 c1 c2 c3 c4
  have hbw : b < w.heap.size := World.block_lt_of_cell? w _ c0
  have hz : ((l1.length : Int) + 1 == 0) = false := beq_eq_false_iff_ne.2 (by omega)
  have HSX : Hid (SlAt w B (.slice (some ⟨b, o + 5, none⟩) l1.length (cap - 1)) l1) := hide (SlAt.tail hbB hrow0 hc0 hc2 _ (fun _ => rfl))
  clear hrow0 hc0
  clear ok hlen hB hbB hp hc2
  have HFU := hide (show fullB st = (f == 0) by rw [fullB]; have := HL.out; cases f <;> simp <;> omega)
  obtain ⟨rb, hrb⟩ : ∃ rb, talkI ⟨5, name, peer, many, sort⟩ = rb := ⟨_, rfl⟩
  have HRB := hide hrb
  clear hrb
  cases rb
  · go_enter Tryz.func80, Tryz.ntmps80
    go_wp2_with fail
    go_region
    go_wp2_with (go_at_call 115; refine (talk_right ⟨5, name, peer, many, sort⟩ _ HN.out (by first | exact .inl rfl | exact .inr (.inl rfl) | exact .inr (.inr rfl))).mono ?_; rintro e w1 ⟨rfl, hb1⟩; rw [HRB.out]; obtain ⟨d0, d1, d2, d3, d4⟩ := NodeAt.carry (B := _) (boxed w ⟨5, name, peer, many, sort⟩ 45) (by simp) hb1; dsimp only at d0 d1 d2 d3 d4; have hs1 : w.heap.size < w1.heap.size := (by have := hb1.size; simp at this; omega); have HB1 : Hid (Below w.heap.size w w1) := hide ((alloc1 _ _).drew.trans (hb1.mono (by simp))); clear hb1)
    go_ret2
    refine told_none HB1.out ?_
    cases f
    · exact ahead_t0 (by simp) (by simp)
    · rw [ahead_t (by simp) (by simp) (by simp), HRB.out]; rfl
  · cases f with
    | zero =>
        go_enter Tryz.func80, Tryz.ntmps80
        go_wp2_with fail
        go_region
        go_wp2_with (first | (go_at_call 115; refine (talk_right ⟨5, name, peer, many, sort⟩ _ HN.out (by first | exact .inl rfl | exact .inr (.inl rfl) | exact .inr (.inr rfl))).mono ?_; rintro e w1 ⟨rfl, hb1⟩; rw [HRB.out]; obtain ⟨d0, d1, d2, d3, d4⟩ := NodeAt.carry (B := _) (boxed w ⟨5, name, peer, many, sort⟩ 45) (by simp) hb1; dsimp only at d0 d1 d2 d3 d4; have hs1 : w.heap.size < w1.heap.size := (by have := hb1.size; simp at this; omega); have HB1 : Hid (Below w.heap.size w w1) := hide ((alloc1 _ _).drew.trans (hb1.mono (by simp))); clear hb1) | (go_at_call 113; refine (p_full st _ _ (PlaceAt.carry HB1.out HP.out)).mono ?_; rintro e w' ⟨rfl, rfl⟩; rw [HFU.out, show ((0 : Nat) == 0) = true from rfl]))
        go_ret2
        refine told_none HB1.out ?_
        exact ahead_t0 (by simp) (by simp)
    | succ f =>
        have HI := hide (hih f rfl)
        have HMB : Hid (1 ≤ (Nd.many ⟨5, name, peer, many, sort⟩) ∧ (Nd.many ⟨5, name, peer, many, sort⟩) ≤ 4) := hide (by have := HRB.out; simp [talkI, manyB] at this; exact this.1.1.2)
        clear hih
        go_enter Tryz.func80, Tryz.ntmps80
        go_wp2_with fail
        go_region
        go_wp2_with (first | (go_at_call 115; refine (talk_right ⟨5, name, peer, many, sort⟩ _ HN.out (by first | exact .inl rfl | exact .inr (.inl rfl) | exact .inr (.inr rfl))).mono ?_; rintro e w1 ⟨rfl, hb1⟩; rw [HRB.out]; obtain ⟨d0, d1, d2, d3, d4⟩ := NodeAt.carry (B := _) (boxed w ⟨5, name, peer, many, sort⟩ 45) (by simp) hb1; dsimp only at d0 d1 d2 d3 d4; have hs1 : w.heap.size < w1.heap.size := (by have := hb1.size; simp at this; omega); have HB1 : Hid (Below w.heap.size w w1) := hide ((alloc1 _ _).drew.trans (hb1.mono (by simp))); clear hb1) | (go_at_call 113; refine (p_full st _ _ (PlaceAt.carry HB1.out HP.out)).mono ?_; rintro e w' ⟨rfl, rfl⟩; rw [HFU.out, show (f + 1 == 0) = false from rfl]))
        go_wp2_with (first | (go_at_call 114; refine (p_inner st _ ⟨5, name, peer, many, sort⟩ _ (PlaceAt.carry HB1.out HP.out) (by have := HL.out; omega)).mono ?_; rintro e w2 ⟨q, rfl, hq, hb2⟩; obtain ⟨uq, rfl⟩ := hq.shape; have HQ := hide hq; have HB2 := hide (HB1.out.trans (hb2.mono HB1.out.size)); clear hq hb2) | (go_at_call 116; refine (cases_ahead f HI.out ⟨5, name, peer, many, sort⟩ st l1 _ _ _ B (by have := HL.out; simp; omega) HMB.out (fun x hx => HO.out x (List.mem_cons_of_mem _ hx)) (Nat.le_trans HB.out HB2.out.size) (HSX.out.carry (HB2.out.mono HB.out)) HQ.out).mono ?_; rintro e w3 ⟨⟨v3, rfl, hs3⟩, hb3⟩; have HS3 := hide hs3; have HB3 := hide hb3; clear hs3 hb3))
        go_ret2
        exact told_on ⟨v3, rfl, HS3.out⟩ HB2.out HB3.out (by rw [ahead_t (by simp) (by simp) (by simp), HRB.out]; rfl)

set_option maxRecDepth 100000 in
set_option maxHeartbeats 1000000 in
theorem msg5_step_a (f : Nat) (hih : ∀ g, f = g + 1 → PlanCalls g) (st : List Nd) (name peer : ByteArray) (many sort : Int) (l1 : List Nd) (p : Value) (w : World) (B b o cap : Nat) (hlen : st.length + f = 10) (ok : ∀ x ∈ ⟨5, name, peer, many, sort⟩ :: l1, x.ok) (hB : B ≤ w.heap.size) (hbB : b < B) (hc1 : (⟨5, name, peer, many, sort⟩ :: l1).length ≤ cap) (hc2 : cap ≤ 9223372036854775807 ∧ l1.length < 4294967296) (hcap : cap = 1) (hrow : RowAt w b o (⟨5, name, peer, many, sort⟩ :: l1)) (hp : PlaceAt w p st) :
    Calls Tryz.prog 80 #[.slice (some ⟨b, o, none⟩) (⟨5, name, peer, many, sort⟩ :: l1 : List Nd).length cap, p] w fun e w' => Told w' B e (ahead talkI f st (⟨5, name, peer, many, sort⟩ :: l1)) ∧ Below w.heap.size w w' := by
  have HP := hide hp
  have HO := hide ok
  have HN := hide (ok ⟨5, name, peer, many, sort⟩ (by simp))
  have HL := hide hlen
  have HB := hide hB
  have HBB := hide hbB
  have HR := hide hrow
  have HC1 := hide hc1
  have HC2 := hide hc2
  obtain ⟨u, rfl⟩ := hp.shape
  simp only [List.length_cons] at hc1
  obtain ⟨⟨c0, c1, c2, c3, c4⟩, -⟩ := hrow
  dsimp only at c0 c1 c2 c3 c4
  have hbw : b < w.heap.size := World.block_lt_of_cell? w _ c0
  have hz : ((l1.length : Int) + 1 == 0) = false := beq_eq_false_iff_ne.2 (by omega)
  have HL1 : Hid (l1.length = 0) := hide (by omega)
  have HSX : Hid (SlAt w B (.slice (some ⟨b, o, none⟩) 0 0) l1) := hide (by rw [List.length_eq_zero_iff.1 HL1.out]; exact ⟨_, _, rfl, Nat.le_refl _, by simp, fun h => absurd rfl h⟩)
  subst hcap
  clear ok hlen hB hbB hp hc2
  have HFU := hide (show fullB st = (f == 0) by rw [fullB]; have := HL.out; cases f <;> simp <;> omega)
  obtain ⟨rb, hrb⟩ : ∃ rb, talkI ⟨5, name, peer, many, sort⟩ = rb := ⟨_, rfl⟩
  have HRB := hide hrb
  clear hrb
  cases rb
  · go_enter Tryz.func80, Tryz.ntmps80
    go_wp2_with fail
    go_region
    go_wp2_with (go_at_call 115; refine (talk_right ⟨5, name, peer, many, sort⟩ _ HN.out (by first | exact .inl rfl | exact .inr (.inl rfl) | exact .inr (.inr rfl))).mono ?_; rintro e w1 ⟨rfl, hb1⟩; rw [HRB.out]; obtain ⟨d0, d1, d2, d3, d4⟩ := NodeAt.carry (B := _) (boxed w ⟨5, name, peer, many, sort⟩ 45) (by simp) hb1; dsimp only at d0 d1 d2 d3 d4; have hs1 : w.heap.size < w1.heap.size := (by have := hb1.size; simp at this; omega); have HB1 : Hid (Below w.heap.size w w1) := hide ((alloc1 _ _).drew.trans (hb1.mono (by simp))); clear hb1)
    go_ret2
    refine told_none HB1.out ?_
    cases f
    · exact ahead_t0 (by simp) (by simp)
    · rw [ahead_t (by simp) (by simp) (by simp), HRB.out]; rfl
  · cases f with
    | zero =>
        go_enter Tryz.func80, Tryz.ntmps80
        go_wp2_with fail
        go_region
        go_wp2_with (first | (go_at_call 115; refine (talk_right ⟨5, name, peer, many, sort⟩ _ HN.out (by first | exact .inl rfl | exact .inr (.inl rfl) | exact .inr (.inr rfl))).mono ?_; rintro e w1 ⟨rfl, hb1⟩; rw [HRB.out]; obtain ⟨d0, d1, d2, d3, d4⟩ := NodeAt.carry (B := _) (boxed w ⟨5, name, peer, many, sort⟩ 45) (by simp) hb1; dsimp only at d0 d1 d2 d3 d4; have hs1 : w.heap.size < w1.heap.size := (by have := hb1.size; simp at this; omega); have HB1 : Hid (Below w.heap.size w w1) := hide ((alloc1 _ _).drew.trans (hb1.mono (by simp))); clear hb1) | (go_at_call 113; refine (p_full st _ _ (PlaceAt.carry HB1.out HP.out)).mono ?_; rintro e w' ⟨rfl, rfl⟩; rw [HFU.out, show ((0 : Nat) == 0) = true from rfl]))
        go_ret2
        refine told_none HB1.out ?_
        exact ahead_t0 (by simp) (by simp)
    | succ f =>
        have HI := hide (hih f rfl)
        have HMB : Hid (1 ≤ (Nd.many ⟨5, name, peer, many, sort⟩) ∧ (Nd.many ⟨5, name, peer, many, sort⟩) ≤ 4) := hide (by have := HRB.out; simp [talkI, manyB] at this; exact this.1.1.2)
        clear hih
        go_enter Tryz.func80, Tryz.ntmps80
        go_wp2_with fail
        go_region
        go_wp2_with (first | (go_at_call 115; refine (talk_right ⟨5, name, peer, many, sort⟩ _ HN.out (by first | exact .inl rfl | exact .inr (.inl rfl) | exact .inr (.inr rfl))).mono ?_; rintro e w1 ⟨rfl, hb1⟩; rw [HRB.out]; obtain ⟨d0, d1, d2, d3, d4⟩ := NodeAt.carry (B := _) (boxed w ⟨5, name, peer, many, sort⟩ 45) (by simp) hb1; dsimp only at d0 d1 d2 d3 d4; have hs1 : w.heap.size < w1.heap.size := (by have := hb1.size; simp at this; omega); have HB1 : Hid (Below w.heap.size w w1) := hide ((alloc1 _ _).drew.trans (hb1.mono (by simp))); clear hb1) | (go_at_call 113; refine (p_full st _ _ (PlaceAt.carry HB1.out HP.out)).mono ?_; rintro e w' ⟨rfl, rfl⟩; rw [HFU.out, show (f + 1 == 0) = false from rfl]))
        go_wp2_with (first | (go_at_call 114; refine (p_inner st _ ⟨5, name, peer, many, sort⟩ _ (PlaceAt.carry HB1.out HP.out) (by have := HL.out; omega)).mono ?_; rintro e w2 ⟨q, rfl, hq, hb2⟩; obtain ⟨uq, rfl⟩ := hq.shape; have HQ := hide hq; have HB2 := hide (HB1.out.trans (hb2.mono HB1.out.size)); clear hq hb2) | (go_at_call 116; refine (cases_ahead f HI.out ⟨5, name, peer, many, sort⟩ st l1 _ _ _ B (by have := HL.out; simp; omega) HMB.out (fun x hx => HO.out x (List.mem_cons_of_mem _ hx)) (Nat.le_trans HB.out HB2.out.size) (HSX.out.carry (HB2.out.mono HB.out)) HQ.out).mono ?_; rintro e w3 ⟨⟨v3, rfl, hs3⟩, hb3⟩; have HS3 := hide hs3; have HB3 := hide hb3; clear hs3 hb3))
        go_ret2
        exact told_on ⟨v3, rfl, HS3.out⟩ HB2.out HB3.out (by rw [ahead_t (by simp) (by simp) (by simp), HRB.out]; rfl)
end Go.Proofs.YtmjlblbhakppfaaGreatDoor
/- rowAhead: at every row of Nodes and place. -/
namespace Go.Proofs.YtmjlblbhakppfaaGreatDoor
open Go.RowKit

set_option maxRecDepth 100000 in
set_option maxHeartbeats 1000000 in
theorem msg6_step_b (f : Nat) (hih : ∀ g, f = g + 1 → PlanCalls g) (st : List Nd) (name peer : ByteArray) (many sort : Int) (l1 : List Nd) (p : Value) (w : World) (B b o cap : Nat) (hlen : st.length + f = 10) (ok : ∀ x ∈ ⟨6, name, peer, many, sort⟩ :: l1, x.ok) (hB : B ≤ w.heap.size) (hbB : b < B) (hc1 : (⟨6, name, peer, many, sort⟩ :: l1).length ≤ cap) (hc2 : cap ≤ 9223372036854775807 ∧ l1.length < 4294967296) (hcap : cap ≠ 1) (hrow : RowAt w b o (⟨6, name, peer, many, sort⟩ :: l1)) (hp : PlaceAt w p st) :
    Calls Tryz.prog 80 #[.slice (some ⟨b, o, none⟩) (⟨6, name, peer, many, sort⟩ :: l1 : List Nd).length cap, p] w fun e w' => Told w' B e (ahead talkI f st (⟨6, name, peer, many, sort⟩ :: l1)) ∧ Below w.heap.size w w' := by
  have HP := hide hp
  have HO := hide ok
  have HN := hide (ok ⟨6, name, peer, many, sort⟩ (by simp))
  have HL := hide hlen
  have HB := hide hB
  have HBB := hide hbB
  have HR := hide hrow
  have HC1 := hide hc1
  have HC2 := hide hc2
  obtain ⟨u, rfl⟩ := hp.shape
  have hc0 := hc1
  simp only [List.length_cons] at hc1
  have hrow0 := hrow
  obtain ⟨⟨c0, c1, c2, c3, c4⟩, -⟩ := hrow
  dsimp only at c0 c1 c2 c3 c4
  have hbw : b < w.heap.size := World.block_lt_of_cell? w _ c0
  have hz : ((l1.length : Int) + 1 == 0) = false := beq_eq_false_iff_ne.2 (by omega)
  have HSX : Hid (SlAt w B (.slice (some ⟨b, o + 5, none⟩) l1.length (cap - 1)) l1) := hide (SlAt.tail hbB hrow0 hc0 hc2 _ (fun _ => rfl))
  clear hrow0 hc0
  clear ok hlen hB hbB hp hc2
  have HFU := hide (show fullB st = (f == 0) by rw [fullB]; have := HL.out; cases f <;> simp <;> omega)
  obtain ⟨rb, hrb⟩ : ∃ rb, talkI ⟨6, name, peer, many, sort⟩ = rb := ⟨_, rfl⟩
  have HRB := hide hrb
  clear hrb
  cases rb
  · go_enter Tryz.func80, Tryz.ntmps80
    go_wp2_with fail
    go_region
    go_wp2_with (go_at_call 115; refine (talk_right ⟨6, name, peer, many, sort⟩ _ HN.out (by first | exact .inl rfl | exact .inr (.inl rfl) | exact .inr (.inr rfl))).mono ?_; rintro e w1 ⟨rfl, hb1⟩; rw [HRB.out]; obtain ⟨d0, d1, d2, d3, d4⟩ := NodeAt.carry (B := _) (boxed w ⟨6, name, peer, many, sort⟩ 45) (by simp) hb1; dsimp only at d0 d1 d2 d3 d4; have hs1 : w.heap.size < w1.heap.size := (by have := hb1.size; simp at this; omega); have HB1 : Hid (Below w.heap.size w w1) := hide ((alloc1 _ _).drew.trans (hb1.mono (by simp))); clear hb1)
    go_ret2
    refine told_none HB1.out ?_
    cases f
    · exact ahead_t0 (by simp) (by simp)
    · rw [ahead_t (by simp) (by simp) (by simp), HRB.out]; rfl
  · cases f with
    | zero =>
        go_enter Tryz.func80, Tryz.ntmps80
        go_wp2_with fail
        go_region
        go_wp2_with (first | (go_at_call 115; refine (talk_right ⟨6, name, peer, many, sort⟩ _ HN.out (by first | exact .inl rfl | exact .inr (.inl rfl) | exact .inr (.inr rfl))).mono ?_; rintro e w1 ⟨rfl, hb1⟩; rw [HRB.out]; obtain ⟨d0, d1, d2, d3, d4⟩ := NodeAt.carry (B := _) (boxed w ⟨6, name, peer, many, sort⟩ 45) (by simp) hb1; dsimp only at d0 d1 d2 d3 d4; have hs1 : w.heap.size < w1.heap.size := (by have := hb1.size; simp at this; omega); have HB1 : Hid (Below w.heap.size w w1) := hide ((alloc1 _ _).drew.trans (hb1.mono (by simp))); clear hb1) | (go_at_call 113; refine (p_full st _ _ (PlaceAt.carry HB1.out HP.out)).mono ?_; rintro e w' ⟨rfl, rfl⟩; rw [HFU.out, show ((0 : Nat) == 0) = true from rfl]))
        go_ret2
        refine told_none HB1.out ?_
        exact ahead_t0 (by simp) (by simp)
    | succ f =>
        have HI := hide (hih f rfl)
        have HMB : Hid (1 ≤ (Nd.many ⟨6, name, peer, many, sort⟩) ∧ (Nd.many ⟨6, name, peer, many, sort⟩) ≤ 4) := hide (by have := HRB.out; simp [talkI, manyB] at this; exact this.1.1.2)
        clear hih
        go_enter Tryz.func80, Tryz.ntmps80
        go_wp2_with fail
        go_region
        go_wp2_with (first | (go_at_call 115; refine (talk_right ⟨6, name, peer, many, sort⟩ _ HN.out (by first | exact .inl rfl | exact .inr (.inl rfl) | exact .inr (.inr rfl))).mono ?_; rintro e w1 ⟨rfl, hb1⟩; rw [HRB.out]; obtain ⟨d0, d1, d2, d3, d4⟩ := NodeAt.carry (B := _) (boxed w ⟨6, name, peer, many, sort⟩ 45) (by simp) hb1; dsimp only at d0 d1 d2 d3 d4; have hs1 : w.heap.size < w1.heap.size := (by have := hb1.size; simp at this; omega); have HB1 : Hid (Below w.heap.size w w1) := hide ((alloc1 _ _).drew.trans (hb1.mono (by simp))); clear hb1) | (go_at_call 113; refine (p_full st _ _ (PlaceAt.carry HB1.out HP.out)).mono ?_; rintro e w' ⟨rfl, rfl⟩; rw [HFU.out, show (f + 1 == 0) = false from rfl]))
        go_wp2_with (first | (go_at_call 114; refine (p_inner st _ ⟨6, name, peer, many, sort⟩ _ (PlaceAt.carry HB1.out HP.out) (by have := HL.out; omega)).mono ?_; rintro e w2 ⟨q, rfl, hq, hb2⟩; obtain ⟨uq, rfl⟩ := hq.shape; have HQ := hide hq; have HB2 := hide (HB1.out.trans (hb2.mono HB1.out.size)); clear hq hb2) | (go_at_call 116; refine (cases_ahead f HI.out ⟨6, name, peer, many, sort⟩ st l1 _ _ _ B (by have := HL.out; simp; omega) HMB.out (fun x hx => HO.out x (List.mem_cons_of_mem _ hx)) (Nat.le_trans HB.out HB2.out.size) (HSX.out.carry (HB2.out.mono HB.out)) HQ.out).mono ?_; rintro e w3 ⟨⟨v3, rfl, hs3⟩, hb3⟩; have HS3 := hide hs3; have HB3 := hide hb3; clear hs3 hb3))
        go_ret2
        exact told_on ⟨v3, rfl, HS3.out⟩ HB2.out HB3.out (by rw [ahead_t (by simp) (by simp) (by simp), HRB.out]; rfl)

set_option maxRecDepth 100000 in
set_option maxHeartbeats 1000000 in
theorem msg6_step_a (f : Nat) (hih : ∀ g, f = g + 1 → PlanCalls g) (st : List Nd) (name peer : ByteArray) (many sort : Int) (l1 : List Nd) (p : Value) (w : World) (B b o cap : Nat) (hlen : st.length + f = 10) (ok : ∀ x ∈ ⟨6, name, peer, many, sort⟩ :: l1, x.ok) (hB : B ≤ w.heap.size) (hbB : b < B) (hc1 : (⟨6, name, peer, many, sort⟩ :: l1).length ≤ cap) (hc2 : cap ≤ 9223372036854775807 ∧ l1.length < 4294967296) (hcap : cap = 1) (hrow : RowAt w b o (⟨6, name, peer, many, sort⟩ :: l1)) (hp : PlaceAt w p st) :
    Calls Tryz.prog 80 #[.slice (some ⟨b, o, none⟩) (⟨6, name, peer, many, sort⟩ :: l1 : List Nd).length cap, p] w fun e w' => Told w' B e (ahead talkI f st (⟨6, name, peer, many, sort⟩ :: l1)) ∧ Below w.heap.size w w' := by
  have HP := hide hp
  have HO := hide ok
  have HN := hide (ok ⟨6, name, peer, many, sort⟩ (by simp))
  have HL := hide hlen
  have HB := hide hB
  have HBB := hide hbB
  have HR := hide hrow
  have HC1 := hide hc1
  have HC2 := hide hc2
  obtain ⟨u, rfl⟩ := hp.shape
  simp only [List.length_cons] at hc1
  obtain ⟨⟨c0, c1, c2, c3, c4⟩, -⟩ := hrow
  dsimp only at c0 c1 c2 c3 c4
  have hbw : b < w.heap.size := World.block_lt_of_cell? w _ c0
  have hz : ((l1.length : Int) + 1 == 0) = false := beq_eq_false_iff_ne.2 (by omega)
  have HL1 : Hid (l1.length = 0) := hide (by omega)
  have HSX : Hid (SlAt w B (.slice (some ⟨b, o, none⟩) 0 0) l1) := hide (by rw [List.length_eq_zero_iff.1 HL1.out]; exact ⟨_, _, rfl, Nat.le_refl _, by simp, fun h => absurd rfl h⟩)
  subst hcap
  clear ok hlen hB hbB hp hc2
  have HFU := hide (show fullB st = (f == 0) by rw [fullB]; have := HL.out; cases f <;> simp <;> omega)
  obtain ⟨rb, hrb⟩ : ∃ rb, talkI ⟨6, name, peer, many, sort⟩ = rb := ⟨_, rfl⟩
  have HRB := hide hrb
  clear hrb
  cases rb
  · go_enter Tryz.func80, Tryz.ntmps80
    go_wp2_with fail
    go_region
    go_wp2_with (go_at_call 115; refine (talk_right ⟨6, name, peer, many, sort⟩ _ HN.out (by first | exact .inl rfl | exact .inr (.inl rfl) | exact .inr (.inr rfl))).mono ?_; rintro e w1 ⟨rfl, hb1⟩; rw [HRB.out]; obtain ⟨d0, d1, d2, d3, d4⟩ := NodeAt.carry (B := _) (boxed w ⟨6, name, peer, many, sort⟩ 45) (by simp) hb1; dsimp only at d0 d1 d2 d3 d4; have hs1 : w.heap.size < w1.heap.size := (by have := hb1.size; simp at this; omega); have HB1 : Hid (Below w.heap.size w w1) := hide ((alloc1 _ _).drew.trans (hb1.mono (by simp))); clear hb1)
    go_ret2
    refine told_none HB1.out ?_
    cases f
    · exact ahead_t0 (by simp) (by simp)
    · rw [ahead_t (by simp) (by simp) (by simp), HRB.out]; rfl
  · cases f with
    | zero =>
        go_enter Tryz.func80, Tryz.ntmps80
        go_wp2_with fail
        go_region
        go_wp2_with (first | (go_at_call 115; refine (talk_right ⟨6, name, peer, many, sort⟩ _ HN.out (by first | exact .inl rfl | exact .inr (.inl rfl) | exact .inr (.inr rfl))).mono ?_; rintro e w1 ⟨rfl, hb1⟩; rw [HRB.out]; obtain ⟨d0, d1, d2, d3, d4⟩ := NodeAt.carry (B := _) (boxed w ⟨6, name, peer, many, sort⟩ 45) (by simp) hb1; dsimp only at d0 d1 d2 d3 d4; have hs1 : w.heap.size < w1.heap.size := (by have := hb1.size; simp at this; omega); have HB1 : Hid (Below w.heap.size w w1) := hide ((alloc1 _ _).drew.trans (hb1.mono (by simp))); clear hb1) | (go_at_call 113; refine (p_full st _ _ (PlaceAt.carry HB1.out HP.out)).mono ?_; rintro e w' ⟨rfl, rfl⟩; rw [HFU.out, show ((0 : Nat) == 0) = true from rfl]))
        go_ret2
        refine told_none HB1.out ?_
        exact ahead_t0 (by simp) (by simp)
    | succ f =>
        have HI := hide (hih f rfl)
        have HMB : Hid (1 ≤ (Nd.many ⟨6, name, peer, many, sort⟩) ∧ (Nd.many ⟨6, name, peer, many, sort⟩) ≤ 4) := hide (by have := HRB.out; simp [talkI, manyB] at this; exact this.1.1.2)
        clear hih
        go_enter Tryz.func80, Tryz.ntmps80
        go_wp2_with fail
        go_region
        go_wp2_with (first | (go_at_call 115; refine (talk_right ⟨6, name, peer, many, sort⟩ _ HN.out (by first | exact .inl rfl | exact .inr (.inl rfl) | exact .inr (.inr rfl))).mono ?_; rintro e w1 ⟨rfl, hb1⟩; rw [HRB.out]; obtain ⟨d0, d1, d2, d3, d4⟩ := NodeAt.carry (B := _) (boxed w ⟨6, name, peer, many, sort⟩ 45) (by simp) hb1; dsimp only at d0 d1 d2 d3 d4; have hs1 : w.heap.size < w1.heap.size := (by have := hb1.size; simp at this; omega); have HB1 : Hid (Below w.heap.size w w1) := hide ((alloc1 _ _).drew.trans (hb1.mono (by simp))); clear hb1) | (go_at_call 113; refine (p_full st _ _ (PlaceAt.carry HB1.out HP.out)).mono ?_; rintro e w' ⟨rfl, rfl⟩; rw [HFU.out, show (f + 1 == 0) = false from rfl]))
        go_wp2_with (first | (go_at_call 114; refine (p_inner st _ ⟨6, name, peer, many, sort⟩ _ (PlaceAt.carry HB1.out HP.out) (by have := HL.out; omega)).mono ?_; rintro e w2 ⟨q, rfl, hq, hb2⟩; obtain ⟨uq, rfl⟩ := hq.shape; have HQ := hide hq; have HB2 := hide (HB1.out.trans (hb2.mono HB1.out.size)); clear hq hb2) | (go_at_call 116; refine (cases_ahead f HI.out ⟨6, name, peer, many, sort⟩ st l1 _ _ _ B (by have := HL.out; simp; omega) HMB.out (fun x hx => HO.out x (List.mem_cons_of_mem _ hx)) (Nat.le_trans HB.out HB2.out.size) (HSX.out.carry (HB2.out.mono HB.out)) HQ.out).mono ?_; rintro e w3 ⟨⟨v3, rfl, hs3⟩, hb3⟩; have HS3 := hide hs3; have HB3 := hide hb3; clear hs3 hb3))
        go_ret2
        exact told_on ⟨v3, rfl, HS3.out⟩ HB2.out HB3.out (by rw [ahead_t (by simp) (by simp) (by simp), HRB.out]; rfl)
end Go.Proofs.YtmjlblbhakppfaaGreatDoor
