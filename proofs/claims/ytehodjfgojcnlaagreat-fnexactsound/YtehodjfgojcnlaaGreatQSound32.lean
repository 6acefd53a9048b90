/- The specification's end, a step: the Node at hand is of this kind. -/
import Derived.Test.YtehodjfgojcnlaaGreatQSound05
namespace Go.Proofs.YtehodjfgojcnlaaGreat
open Go.RowKit

set_option maxRecDepth 100000 in
set_option maxHeartbeats 1000000 in
theorem end_1 (part : Bool) (f : Nat) (st all : List Nd) (pos bx : Nat) (a d op : Int) (rv : Value) (w : World) (hlen : st.length + f = 10) (hst : StOk st) (ok : ∀ n ∈ all, n.ok) (ha : a = pos) (hpl : pos < all.length) (hd : d = (st.length + 1 : Nat)) (hop : op = openOf st) (hx : LookAt w bx part all) (hr : TextsAt w rv (recsOf st)) (hnil : recsOf st = [] → rv = .slice none 0 0) (name peer : ByteArray) (many sort : Int) (hn : all[pos] = ⟨1, name, peer, many, sort⟩) :
    Calls Tryz.prog 28 #[.pointer (some ⟨bx, 0, none⟩), .int .i64 a, .int .i64 d, rv, .int .i64 op] w fun e w' => e = .returned (.int .i64 (endPos all (ahead (talkS part) f st (all.drop pos)))) ∧ Below w.heap.size w w' := by
  have HX := hide hx
  have HR := hide hr
  have HO := hide ok
  have HL := hide hlen
  have HST := hide hst
  have HNIL := hide hnil
  obtain ⟨i0, hi, hz0, hz1, hz2⟩ := info_parts Tryz.infoS
  have HI := hide (And.intro hi (And.intro hz0 (And.intro hz1 hz2)))
  obtain ⟨rao, rcap, rfl, rc1, rc2, -⟩ := hr
  subst ha hd hop
  obtain ⟨xao, xcap, x0, x1, x2, x3, x4⟩ := hx
  obtain ⟨b, o, rfl, hrow⟩ := x4 (by intro h; simp [h] at hpl)
  have hnode := hrow.get pos hpl
  have HDROP := hide (show all.drop pos = ⟨1, name, peer, many, sort⟩ :: all.drop (pos + 1) by rw [← hn]; exact drop_cons hpl)
  have HN1 := hide (show Nd.ok ⟨1, name, peer, many, sort⟩ by rw [← hn]; exact HO.out _ (List.getElem_mem hpl))
  have HPN := hide (pos_next hpl)
  rw [hn] at hnode
  obtain ⟨c0, c1, c2, c3, c4⟩ := hnode
  dsimp only at c0 c1 c2 c3 c4
  have hbw : b < w.heap.size := World.block_lt_of_cell? w _ c0
  have hbx : bx < w.heap.size := World.block_lt_of_cell? w _ x0
  have HXA : Hid (∀ ob, (w.alloc ob).cell? ⟨bx, 1, none⟩ = some (.bool part)) := hide (fun ob => ((alloc1 w ob).cell (p := ⟨bx, 1, none⟩) hbx).trans x1)
  have hp2 : decide ((all.length : Int) ≤ (pos : Int)) = false := decide_eq_false (by omega)
  have hdl : st.length ≤ 10 := by omega
  have HOL := hide (open_le st)
  have ho2 : openOf st ≤ (recsOf st).length := open_le st
  have hrl : (recsOf st).length ≤ 10 := by have := recs_len st; omega
  clear hrow hn ok hlen hst x4 hi hz0 hz1 hz2 hnil
  have HBK := hide (back_false st name HST.out)
  have HTK : Hid (TextsAt w (.slice rao (openOf st) rcap) ((recsOf st).take (openOf st))) := hide (HR.out.take HOL.out)
  obtain ⟨am, ham⟩ : ∃ am, hasB ((recsOf st).take (openOf st)) name = am := ⟨_, rfl⟩
  have HAM := hide ham
  have hro : openOf st ≤ rcap := Nat.le_trans ho2 rc1
  clear ham
  by_cases q1 : peer.toList = []
  · by_cases q2 : many = 0
    · by_cases q3 : sort = 0
      · skip
        cases am
        · go_enter Tryz.func28, Tryz.ntmps28
          go_wp2_with fail
          go_region_with (go_at_call 47; refine (s_among ((recsOf st).take (openOf st)) name _ _ (HTK.out.carry (by repeat (first | exact alloc1 _ _ | exact Below.refl _ _ | refine Below.drew ?_)))).mono ?_; rintro e w1 ⟨rfl, rfl⟩; rw [HAM.out])
          go_wp2_with fail
          go_ret
          refine ⟨ret_int ?_, (by repeat (first | exact alloc1 _ _ | exact Below.refl _ _ | refine Below.drew ?_))⟩
          rw [HDROP.out, ahead_1 rfl, if_neg (by rw [HBK.out, HAM.out]; simp)]
          rfl
        · go_enter Tryz.func28, Tryz.ntmps28
          go_wp2_with fail
          go_region_with (go_at_call 47; refine (s_among ((recsOf st).take (openOf st)) name _ _ (HTK.out.carry (by repeat (first | exact alloc1 _ _ | exact Below.refl _ _ | refine Below.drew ?_)))).mono ?_; rintro e w1 ⟨rfl, rfl⟩; rw [HAM.out])
          go_wp2_with fail
          go_ret
          refine ⟨ret_int ?_, (by repeat (first | exact alloc1 _ _ | exact Below.refl _ _ | refine Below.drew ?_))⟩
          rw [HDROP.out, ahead_1 rfl, if_pos (by rw [HBK.out, HAM.out]; simp [varB, *])]
          exact HPN.out
      · have q3' : (sort == 0) = false := beq_eq_false_iff_ne.2 q3
        go_enter Tryz.func28, Tryz.ntmps28
        go_wp2_with fail
        go_region
        go_wp2_with fail
        go_ret
        refine ⟨ret_int ?_, (by repeat (first | exact alloc1 _ _ | exact Below.refl _ _ | refine Below.drew ?_))⟩
        rw [HDROP.out, ahead_1 rfl, if_neg (by simp [varB, *])]
        rfl
    · have q2' : (many == 0) = false := beq_eq_false_iff_ne.2 q2
      go_enter Tryz.func28, Tryz.ntmps28
      go_wp2_with fail
      go_region
      go_wp2_with fail
      go_ret
      refine ⟨ret_int ?_, (by repeat (first | exact alloc1 _ _ | exact Below.refl _ _ | refine Below.drew ?_))⟩
      rw [HDROP.out, ahead_1 rfl, if_neg (by simp [varB, *])]
      rfl
  · have q1' : (peer.toList == []) = false := beq_eq_false_iff_ne.2 q1
    go_enter Tryz.func28, Tryz.ntmps28
    go_wp2_with fail
    go_region
    go_wp2_with fail
    go_ret
    refine ⟨ret_int ?_, (by repeat (first | exact alloc1 _ _ | exact Below.refl _ _ | refine Below.drew ?_))⟩
    rw [HDROP.out, ahead_1 rfl, if_neg (by simp [varB, *])]
    rfl
end Go.Proofs.YtehodjfgojcnlaaGreat
/- The specification's end, a step: the Node at hand is of this kind. -/
namespace Go.Proofs.YtehodjfgojcnlaaGreat
open Go.RowKit

set_option maxRecDepth 100000 in
set_option maxHeartbeats 1000000 in
theorem end_2a (part : Bool) (f : Nat) (st all : List Nd) (pos bx : Nat) (a d op : Int) (rv : Value) (w : World) (hlen : st.length + f = 10) (hst : StOk st) (ok : ∀ n ∈ all, n.ok) (ha : a = pos) (hpl : pos < all.length) (hd : d = (st.length + 1 : Nat)) (hop : op = openOf st) (hx : LookAt w bx part all) (hr : TextsAt w rv (recsOf st)) (hnil : recsOf st = [] → rv = .slice none 0 0) (name peer : ByteArray) (many sort : Int) (hbad : f = 0 ∨ (recB ⟨2, name, peer, many, sort⟩ && !withinB st name) = false) (hn : all[pos] = ⟨2, name, peer, many, sort⟩) :
    Calls Tryz.prog 28 #[.pointer (some ⟨bx, 0, none⟩), .int .i64 a, .int .i64 d, rv, .int .i64 op] w fun e w' => e = .returned (.int .i64 (endPos all (ahead (talkS part) f st (all.drop pos)))) ∧ Below w.heap.size w w' := by
  have HX := hide hx
  have HR := hide hr
  have HO := hide ok
  have HL := hide hlen
  have HST := hide hst
  have HNIL := hide hnil
  obtain ⟨i0, hi, hz0, hz1, hz2⟩ := info_parts Tryz.infoS
  have HI := hide (And.intro hi (And.intro hz0 (And.intro hz1 hz2)))
  obtain ⟨rao, rcap, rfl, rc1, rc2, -⟩ := hr
  subst ha hd hop
  obtain ⟨xao, xcap, x0, x1, x2, x3, x4⟩ := hx
  obtain ⟨b, o, rfl, hrow⟩ := x4 (by intro h; simp [h] at hpl)
  have hnode := hrow.get pos hpl
  have HDROP := hide (show all.drop pos = ⟨2, name, peer, many, sort⟩ :: all.drop (pos + 1) by rw [← hn]; exact drop_cons hpl)
  have HN1 := hide (show Nd.ok ⟨2, name, peer, many, sort⟩ by rw [← hn]; exact HO.out _ (List.getElem_mem hpl))
  have HPN := hide (pos_next hpl)
  rw [hn] at hnode
  obtain ⟨c0, c1, c2, c3, c4⟩ := hnode
  dsimp only at c0 c1 c2 c3 c4
  have hbw : b < w.heap.size := World.block_lt_of_cell? w _ c0
  have hbx : bx < w.heap.size := World.block_lt_of_cell? w _ x0
  have HXA : Hid (∀ ob, (w.alloc ob).cell? ⟨bx, 1, none⟩ = some (.bool part)) := hide (fun ob => ((alloc1 w ob).cell (p := ⟨bx, 1, none⟩) hbx).trans x1)
  have hp2 : decide ((all.length : Int) ≤ (pos : Int)) = false := decide_eq_false (by omega)
  have hdl : st.length ≤ 10 := by omega
  have HOL := hide (open_le st)
  have ho2 : openOf st ≤ (recsOf st).length := open_le st
  have hrl : (recsOf st).length ≤ 10 := by have := recs_len st; omega
  clear hrow hn ok hlen hst x4 hi hz0 hz1 hz2 hnil
  have HBAD := hide hbad
  clear hbad
  have HWI := hide (within_eq st name)
  obtain ⟨wo, hwo⟩ : ∃ wo, wordB name = wo := ⟨_, rfl⟩
  obtain ⟨am, ham⟩ : ∃ am, hasB (recsOf st) name = am := ⟨_, rfl⟩
  have HWO := hide hwo
  have HAM := hide ham
  clear ham hwo
  by_cases q1 : peer.toList = []
  · by_cases q2 : many = 0
    · by_cases q3 : sort = 0
      · skip
        cases wo
        · go_enter Tryz.func28, Tryz.ntmps28
          go_wp2_with (go_at_call 48; refine (s_name name _ HN1.out.1).mono ?_; rintro e w1 ⟨rfl, rfl⟩; rw [HWO.out])
          go_ret
          refine ⟨ret_int ?_, (by repeat (first | exact alloc1 _ _ | exact Below.refl _ _ | refine Below.drew ?_))⟩
          rw [HDROP.out]
          cases f
          · rw [ahead_20 rfl]; rfl
          · rw [ahead_2 rfl, if_neg (by simp [recB, HWO.out])]; rfl
        · cases am
          · cases f with
            | zero =>
              have hd2 : decide ((st.length : Int) + 1 ≤ 10) = false := decide_eq_false (by have := HL.out; omega)
              go_enter Tryz.func28, Tryz.ntmps28
              go_wp2_with (first | (go_at_call 48; refine (s_name name _ HN1.out.1).mono ?_; rintro e w1 ⟨rfl, rfl⟩; rw [HWO.out]) | (go_at_call 47; refine (s_among (recsOf st) name _ _ (HR.out.carry (by repeat (first | exact alloc1 _ _ | exact Below.refl _ _ | refine Below.drew ?_)))).mono ?_; rintro e w1 ⟨rfl, rfl⟩; rw [HAM.out]))
              go_ret
              refine ⟨ret_int ?_, (by repeat (first | exact alloc1 _ _ | exact Below.refl _ _ | refine Below.drew ?_))⟩
              rw [HDROP.out, ahead_20 rfl]; rfl
            | succ f =>
              exfalso
              rcases HBAD.out with h | h
              · omega
              · rw [HWI.out, HAM.out] at h
                simp [recB, HWO.out, q1, q2, q3] at h
          · go_enter Tryz.func28, Tryz.ntmps28
            go_wp2_with (first | (go_at_call 48; refine (s_name name _ HN1.out.1).mono ?_; rintro e w1 ⟨rfl, rfl⟩; rw [HWO.out]) | (go_at_call 47; refine (s_among (recsOf st) name _ _ (HR.out.carry (by repeat (first | exact alloc1 _ _ | exact Below.refl _ _ | refine Below.drew ?_)))).mono ?_; rintro e w1 ⟨rfl, rfl⟩; rw [HAM.out]))
            go_ret
            refine ⟨ret_int ?_, (by repeat (first | exact alloc1 _ _ | exact Below.refl _ _ | refine Below.drew ?_))⟩
            rw [HDROP.out]
            cases f
            · rw [ahead_20 rfl]; rfl
            · rw [ahead_2 rfl, if_neg (by rw [HWI.out]; simp [HAM.out])]; rfl
      · have q3' : (sort == 0) = false := beq_eq_false_iff_ne.2 q3
        go_enter Tryz.func28, Tryz.ntmps28
        go_wp2_with fail
        go_ret
        refine ⟨ret_int ?_, (by repeat (first | exact alloc1 _ _ | exact Below.refl _ _ | refine Below.drew ?_))⟩
        rw [HDROP.out]
        cases f
        · rw [ahead_20 rfl]; rfl
        · rw [ahead_2 rfl, if_neg (by simp [recB, *])]; rfl
    · have q2' : (many == 0) = false := beq_eq_false_iff_ne.2 q2
      go_enter Tryz.func28, Tryz.ntmps28
      go_wp2_with fail
      go_ret
      refine ⟨ret_int ?_, (by repeat (first | exact alloc1 _ _ | exact Below.refl _ _ | refine Below.drew ?_))⟩
      rw [HDROP.out]
      cases f
      · rw [ahead_20 rfl]; rfl
      · rw [ahead_2 rfl, if_neg (by simp [recB, *])]; rfl
  · have q1' : (peer.toList == []) = false := beq_eq_false_iff_ne.2 q1
    go_enter Tryz.func28, Tryz.ntmps28
    go_wp2_with fail
    go_ret
    refine ⟨ret_int ?_, (by repeat (first | exact alloc1 _ _ | exact Below.refl _ _ | refine Below.drew ?_))⟩
    rw [HDROP.out]
    cases f
    · rw [ahead_20 rfl]; rfl
    · rw [ahead_2 rfl, if_neg (by simp [recB, *])]; rfl
end Go.Proofs.YtehodjfgojcnlaaGreat
