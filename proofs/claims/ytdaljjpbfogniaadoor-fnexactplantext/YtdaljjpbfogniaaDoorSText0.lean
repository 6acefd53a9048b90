/- l02Text, a step: the Node at hand is of this kind. -/
import Derived.Test.YtdaljjpbfogniaaDoorSText
namespace Go.Proofs.YtdaljjpbfogniaaDoor
open Go.RowKit
set_option linter.unusedVariables false

set_option maxRecDepth 100000 in
set_option maxHeartbeats 1000000 in
theorem stext0 (part : Bool) (f : Nat) (st all r : List Nd) (pos : Nat) (v : Value) (w : World) (hst : StW st) (hpl : pos < all.length) (h40 : all.length ≤ 40)
    (many sort : Int) (name peer : ByteArray) (hn : all[pos] = ⟨0, name, peer, many, sort⟩) (ha : ahead (talkS part) f st (all.drop pos) = some r) (hx : ArrAt w v all) :
    Calls Tryd.prog 37 #[v, .int .i64 pos] w fun e w' => e = .returned (.tuple #[.string (textF f (all.drop pos)).1, .int .i64 ((all.length - r.length : Nat) : Int)]) ∧ Below w.heap.size w w' := by
  obtain ⟨b, o, cap, rfl, hc, hm, hrow, hbw⟩ := hx
  have hnode := hrow.get pos hpl
  have hdrop : all.drop pos = ⟨0, name, peer, many, sort⟩ :: all.drop (pos + 1) := by rw [← hn]; exact drop_cons hpl
  rw [hn] at hnode
  obtain ⟨c0, c1, c2, c3, c4⟩ := hnode
  dsimp only at c0 c1 c2 c3 c4
  rw [hdrop] at ha ⊢
  rw [ahead_0 rfl] at ha
  obtain ⟨hre, hz1, hpz⟩ : r = all.drop (pos + 1) ∧ name.size ≤ 20 ∧ peer.size = 0 := by
    split at ha
    · rename_i h
      cases ha
      refine ⟨rfl, ?_, ?_⟩
      · have : name.size = 0 := by
          have h0 : name.data.toList = [] := by rw [← Go.ByteArray.toList_eq]; simp only [endB, Bool.and_eq_true, beq_iff_eq] at h; simp [h]
          have h3 : name.size = name.data.toList.length := rfl
          rw [h3, h0]; rfl
        omega
      · exact by
          have h0 : peer.data.toList = [] := by rw [← Go.ByteArray.toList_eq]; simp only [endB, Bool.and_eq_true, beq_iff_eq] at h; simp [h]
          have h3 : peer.size = peer.data.toList.length := rfl
          rw [h3, h0]; rfl
    · cases ha
  have HRE : Hid ((textF f (⟨0, name, peer, many, sort⟩ :: all.drop (pos + 1))).1 = ba [101, 110, 100] ∧ r = all.drop (pos + 1)) := hide ⟨by cases f <;> rfl, hre⟩
  have hz2 : peer.size ≤ 20 := by rw [hpz]; simp
  clear hrow hn hdrop ha hre
  go_enter Tryd.func37, Tryd.ntmps37
  go_wp2_with fail
  go_ret2
  refine ⟨?_, alloc1 _ _⟩
  rw [HRE.out.1, HRE.out.2, List.length_drop, show ((all.length - (all.length - (pos + 1)) : Nat) : Int) = (pos : Int) + 1 from by omega]
  rfl

set_option maxRecDepth 100000 in
set_option maxHeartbeats 1000000 in
theorem stext1 (part : Bool) (f : Nat) (st all r : List Nd) (pos : Nat) (v : Value) (w : World) (hst : StW st) (hpl : pos < all.length) (h40 : all.length ≤ 40)
    (many sort : Int) (name peer : ByteArray) (hn : all[pos] = ⟨1, name, peer, many, sort⟩) (ha : ahead (talkS part) f st (all.drop pos) = some r) (hx : ArrAt w v all) :
    Calls Tryd.prog 37 #[v, .int .i64 pos] w fun e w' => e = .returned (.tuple #[.string (textF f (all.drop pos)).1, .int .i64 ((all.length - r.length : Nat) : Int)]) ∧ Below w.heap.size w w' := by
  obtain ⟨b, o, cap, rfl, hc, hm, hrow, hbw⟩ := hx
  have hnode := hrow.get pos hpl
  have hdrop : all.drop pos = ⟨1, name, peer, many, sort⟩ :: all.drop (pos + 1) := by rw [← hn]; exact drop_cons hpl
  rw [hn] at hnode
  obtain ⟨c0, c1, c2, c3, c4⟩ := hnode
  dsimp only at c0 c1 c2 c3 c4
  rw [hdrop] at ha ⊢
  rw [ahead_1 rfl] at ha
  obtain ⟨hre, hz1, hpz⟩ : r = all.drop (pos + 1) ∧ name.size ≤ 20 ∧ peer.size = 0 := by
    split at ha
    · rename_i h'
      cases ha
      obtain ⟨h, hbk⟩ : varB ⟨1, name, peer, many, sort⟩ = true ∧ backB false st name = true := by simpa using h'
      refine ⟨rfl, back20 st false name hst hbk, ?_⟩
      exact by
          have h0 : peer.data.toList = [] := by rw [← Go.ByteArray.toList_eq]; simp only [varB, Bool.and_eq_true, beq_iff_eq] at h; simp [h]
          have h3 : peer.size = peer.data.toList.length := rfl
          rw [h3, h0]; rfl
    · cases ha
  have HRE : Hid ((textF f (⟨1, name, peer, many, sort⟩ :: all.drop (pos + 1))).1 = name ∧ r = all.drop (pos + 1)) := hide ⟨by cases f <;> rfl, hre⟩
  have hz2 : peer.size ≤ 20 := by rw [hpz]; simp
  clear hrow hn hdrop ha hre
  go_enter Tryd.func37, Tryd.ntmps37
  go_wp2_with fail
  go_ret2
  refine ⟨?_, alloc1 _ _⟩
  rw [HRE.out.1, HRE.out.2, List.length_drop, show ((all.length - (all.length - (pos + 1)) : Nat) : Int) = (pos : Int) + 1 from by omega]
  rfl

set_option maxRecDepth 100000 in
set_option maxHeartbeats 1000000 in
theorem stext2 (part : Bool) (f : Nat) (ih : STextCalls part f) (st all r : List Nd) (pos : Nat) (v : Value) (w : World) (hlen : st.length + (f + 1) = 10) (hst : StW st) (hpl : pos < all.length) (h40 : all.length ≤ 40)
    (many sort : Int) (name peer : ByteArray) (hn : all[pos] = ⟨2, name, peer, many, sort⟩) (ha : ahead (talkS part) (f + 1) st (all.drop pos) = some r) (hx : ArrAt w v all) :
    Calls Tryd.prog 37 #[v, .int .i64 pos] w fun e w' => e = .returned (.tuple #[.string (textF (f + 1) (all.drop pos)).1, .int .i64 ((all.length - r.length : Nat) : Int)]) ∧ Below w.heap.size w w' := by
  have HX := hide hx
  have HI := hide ih
  have HL := hide hlen
  obtain ⟨b, o, cap, rfl, hc, hm, hrow, hbw⟩ := hx
  have hnode := hrow.get pos hpl
  have hdrop : all.drop pos = ⟨2, name, peer, many, sort⟩ :: all.drop (pos + 1) := by rw [← hn]; exact drop_cons hpl
  rw [hn] at hnode
  obtain ⟨c0, c1, c2, c3, c4⟩ := hnode
  dsimp only at c0 c1 c2 c3 c4
  rw [hdrop] at ha ⊢
  rw [ahead_2 rfl] at ha
  obtain ⟨hrb, hgo⟩ : recB ⟨2, name, peer, many, sort⟩ = true ∧ ahead (talkS part) f (⟨2, name, peer, many, sort⟩ :: st) (all.drop (pos + 1)) = some r := by
    split at ha
    · rename_i h; simp only [Bool.and_eq_true] at h; exact ⟨h.1, ha⟩
    · cases ha
  have hz1 : name.size ≤ 20 := by simp only [recB, Bool.and_eq_true] at hrb; exact word20 hrb.2
  have hz2 : peer.size ≤ 20 := by
    have h0 : peer.data.toList = [] := by rw [← Go.ByteArray.toList_eq]; simp only [recB, Bool.and_eq_true, beq_iff_eq] at hrb; simp [hrb]
    have h3 : peer.size = peer.data.toList.length := rfl
    rw [h3, h0]; simp
  have hstw : StW (⟨2, name, peer, many, sort⟩ :: st) := fun x hx h2 => by
    rcases List.mem_cons.1 hx with e | e
    · rw [e]; exact hz1
    · exact hst x e h2
  obtain ⟨e1, s1⟩ := ahead_text part f _ _ r hstw hgo
  obtain ⟨t1, ht1⟩ : ∃ t1, (textF f (all.drop (pos + 1))).1 = t1 := ⟨_, rfl⟩
  rw [ht1] at s1
  have htz : t1.size ≤ 1720 := by rw [List.length_drop] at s1; omega
  have HT1 := hide ht1
  have HRE : Hid ((textF (f + 1) (⟨2, name, peer, many, sort⟩ :: all.drop (pos + 1))).1 = ba [114, 101, 99] ++ ba [32] ++ name ++ ba [46] ++ t1) := hide (by rw [← HT1.out]; rfl)
  have HST := hide hstw
  have HGO := hide hgo
  clear hrow hn hdrop ha hrb hgo hst hlen e1 s1 ht1 hstw ih
  go_enter Tryd.func37, Tryd.ntmps37
  go_wp2_with (go_at_call 37; refine (HI.out (⟨2, name, peer, many, sort⟩ :: st) all r (pos + 1) _ _ _ (by have := HL.out; simp; omega) HST.out (by omega) (by omega) h40 HGO.out (HX.out.carry (alloc1 _ _))).mono ?_; rintro e w1 ⟨rfl, hb1⟩; rw [HT1.out]; obtain ⟨d0, d1, d2, d3, d4⟩ := NodeAt.carry (B := _) (boxed0 w ⟨2, name, peer, many, sort⟩ 44) (by simp) hb1; dsimp only at d0 d1 d2 d3 d4; have hs1 : w.heap.size < w1.heap.size := (by have := hb1.size; simp at this; omega); have HB1 : Hid (Below w.heap.size w w1) := hide ((alloc1 _ _).trans (hb1.mono (by simp))); clear hb1)
  go_ret2
  refine ⟨?_, HB1.out⟩
  rw [HRE.out]
  first
    | rfl
    | (congr 4; done)
    | (congr 4; apply ba_ext; simp [ba])
end Go.Proofs.YtdaljjpbfogniaaDoor
