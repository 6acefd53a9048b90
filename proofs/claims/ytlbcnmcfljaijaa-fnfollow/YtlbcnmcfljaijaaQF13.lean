import Derived.Test.YtlbcnmcfljaijaaQF09
import Derived.Test.YtlbcnmcfljaijaaQF11
import Derived.Test.YtlbcnmcfljaijaaQF04
import Derived.Test.YtlbcnmcfljaijaaQF06
import Derived.Maps.OwnSet
namespace Go.Proofs.Ytlbcnmcfljaijaa
open Go.RowKit

set_option maxRecDepth 100000 in
set_option maxHeartbeats 1000000 in
theorem end_0 (part : Bool) (f : Nat) (st all : List Nd) (pos bx : Nat) (a d op : Int) (rv : Value) (w : World) (hlen : st.length + f = 10) (hst : StOk st) (ok : ∀ n ∈ all, n.ok) (ha : a = pos) (hpl : pos < all.length) (hd : d = (st.length + 1 : Nat)) (hop : op = openOf st) (hx : LookAt w bx part all) (hr : TextsAt w rv (recsOf st)) (hnil : recsOf st = [] → rv = .slice none 0 0) (name peer : ByteArray) (many sort : Int) (hn : all[pos] = ⟨0, name, peer, many, sort⟩) :
    Calls Try.prog 66 #[.pointer (some ⟨bx, 0, none⟩), .int .i64 a, .int .i64 d, rv, .int .i64 op] w fun e w' => e = .returned (.int .i64 (endPos all (ahead (talkS part) f st (all.drop pos)))) ∧ Below w.heap.size w w' := by
  have HX := hide hx
  have HR := hide hr
  have HO := hide ok
  have HL := hide hlen
  have HST := hide hst
  have HNIL := hide hnil
  obtain ⟨i0, hi, hz0, hz1, hz2⟩ := info_parts Try.infoS
  have HI := hide (And.intro hi (And.intro hz0 (And.intro hz1 hz2)))
  obtain ⟨rao, rcap, rfl, rc1, rc2, -⟩ := hr
  subst ha hd hop
  obtain ⟨xao, xcap, x0, x1, x2, x3, x4⟩ := hx
  obtain ⟨b, o, rfl, hrow⟩ := x4 (by intro h; simp [h] at hpl)
  have hnode := hrow.get pos hpl
  have HDROP := hide (show all.drop pos = ⟨0, name, peer, many, sort⟩ :: all.drop (pos + 1) by rw [← hn]; exact drop_cons hpl)
  have HN1 := hide (show Nd.ok ⟨0, name, peer, many, sort⟩ by rw [← hn]; exact HO.out _ (List.getElem_mem hpl))
  have HPN := hide (pos_next hpl)
  rw [hn] at hnode
  obtain ⟨c0, c1, c2, c3, c4⟩ := hnode
  dsimp only at c0 c1 c2 c3 c4
  have hbw : b < w.heap.size := World.block_lt_of_cell? w _ c0
  have hbx : bx < w.heap.size := World.block_lt_of_cell? w _ x0
  have HXA : Hid (∀ ob, (w.alloc ob).cell? ⟨bx, 1, none⟩ = some (.bool part)) := hide (fun ob => ((alloc1 w ob).cell (p := ⟨bx, 1, none⟩) hbx).trans x1)
  have hp2 : decide ((all.length : Int) ≤ (pos : Int)) = false := decide_eq_false (by omega)
  have hdl : st.length ≤ 10 := by omega
  have HOL := hide (open_le st)
  have ho2 : openOf st ≤ (recsOf st).length := open_le st
  have hrl : (recsOf st).length ≤ 10 := by have := recs_len st; omega
  clear hrow hn ok hlen hst x4 hi hz0 hz1 hz2 hnil
  by_cases q1 : peer.toList = []
  · by_cases q2 : many = 0
    · by_cases q3 : sort = 0
      · skip
        by_cases q4 : name.toList = []
        · go_enter Try.func66, Try.ntmps66
          go_wp2_with fail
          go_ret
          refine ⟨ret_int ?_, (by repeat (first | exact alloc1 _ _ | exact Below.refl _ _ | refine Below.drew ?_))⟩
          rw [HDROP.out, ahead_0 rfl, if_pos (by simp [endB, *])]
          exact HPN.out
        · go_enter Try.func66, Try.ntmps66
          go_wp2_with fail
          all_goals
            go_ret
            refine ⟨ret_int ?_, (by repeat (first | exact alloc1 _ _ | exact Below.refl _ _ | refine Below.drew ?_))⟩
            rw [HDROP.out, ahead_0 rfl]
            first
              | (rw [if_neg (by simp [endB, *])]; rfl)
              | (rw [if_pos (by simp [endB, *])]; exact HPN.out)
      · have q3' : (sort == 0) = false := beq_eq_false_iff_ne.2 q3
        go_enter Try.func66, Try.ntmps66
        go_wp2_with fail
        go_ret
        refine ⟨ret_int ?_, (by repeat (first | exact alloc1 _ _ | exact Below.refl _ _ | refine Below.drew ?_))⟩
        rw [HDROP.out, ahead_0 rfl, if_neg (by simp [endB, *])]
        rfl
    · have q2' : (many == 0) = false := beq_eq_false_iff_ne.2 q2
      go_enter Try.func66, Try.ntmps66
      go_wp2_with fail
      go_ret
      refine ⟨ret_int ?_, (by repeat (first | exact alloc1 _ _ | exact Below.refl _ _ | refine Below.drew ?_))⟩
      rw [HDROP.out, ahead_0 rfl, if_neg (by simp [endB, *])]
      rfl
  · have q1' : (peer.toList == []) = false := beq_eq_false_iff_ne.2 q1
    go_enter Try.func66, Try.ntmps66
    go_wp2_with fail
    go_ret
    refine ⟨ret_int ?_, (by repeat (first | exact alloc1 _ _ | exact Below.refl _ _ | refine Below.drew ?_))⟩
    rw [HDROP.out, ahead_0 rfl, if_neg (by simp [endB, *])]
    rfl
end Go.Proofs.Ytlbcnmcfljaijaa
namespace Go.Proofs.Ytlbcnmcfljaijaa
open Go.RowKit

set_option maxRecDepth 100000 in
set_option maxHeartbeats 1000000 in
theorem end_1 (part : Bool) (f : Nat) (st all : List Nd) (pos bx : Nat) (a d op : Int) (rv : Value) (w : World) (hlen : st.length + f = 10) (hst : StOk st) (ok : ∀ n ∈ all, n.ok) (ha : a = pos) (hpl : pos < all.length) (hd : d = (st.length + 1 : Nat)) (hop : op = openOf st) (hx : LookAt w bx part all) (hr : TextsAt w rv (recsOf st)) (hnil : recsOf st = [] → rv = .slice none 0 0) (name peer : ByteArray) (many sort : Int) (hn : all[pos] = ⟨1, name, peer, many, sort⟩) :
    Calls Try.prog 66 #[.pointer (some ⟨bx, 0, none⟩), .int .i64 a, .int .i64 d, rv, .int .i64 op] w fun e w' => e = .returned (.int .i64 (endPos all (ahead (talkS part) f st (all.drop pos)))) ∧ Below w.heap.size w w' := by
  have HX := hide hx
  have HR := hide hr
  have HO := hide ok
  have HL := hide hlen
  have HST := hide hst
  have HNIL := hide hnil
  obtain ⟨i0, hi, hz0, hz1, hz2⟩ := info_parts Try.infoS
  have HI := hide (And.intro hi (And.intro hz0 (And.intro hz1 hz2)))
  obtain ⟨rao, rcap, rfl, rc1, rc2, -⟩ := hr
  subst ha hd hop
  obtain ⟨xao, xcap, x0, x1, x2, x3, x4⟩ := hx
  obtain ⟨b, o, rfl, hrow⟩ := x4 (by intro h; simp [h] at hpl)
  have hnode := hrow.get pos hpl
  have HDROP := hide (show all.drop pos = ⟨1, name, peer, many, sort⟩ :: all.drop (pos + 1) by rw [← hn]; exact drop_cons hpl)
  have HN1 := hide (show Nd.ok ⟨1, name, peer, many, sort⟩ by rw [← hn]; exact HO.out _ (List.getElem_mem hpl))
  have HPN := hide (pos_next hpl)
  rw [hn] at hnode
  obtain ⟨c0, c1, c2, c3, c4⟩ := hnode
  dsimp only at c0 c1 c2 c3 c4
  have hbw : b < w.heap.size := World.block_lt_of_cell? w _ c0
  have hbx : bx < w.heap.size := World.block_lt_of_cell? w _ x0
  have HXA : Hid (∀ ob, (w.alloc ob).cell? ⟨bx, 1, none⟩ = some (.bool part)) := hide (fun ob => ((alloc1 w ob).cell (p := ⟨bx, 1, none⟩) hbx).trans x1)
  have hp2 : decide ((all.length : Int) ≤ (pos : Int)) = false := decide_eq_false (by omega)
  have hdl : st.length ≤ 10 := by omega
  have HOL := hide (open_le st)
  have ho2 : openOf st ≤ (recsOf st).length := open_le st
  have hrl : (recsOf st).length ≤ 10 := by have := recs_len st; omega
  clear hrow hn ok hlen hst x4 hi hz0 hz1 hz2 hnil
  have HBK := hide (back_false st name HST.out)
  have HTK : Hid (TextsAt w (.slice rao (openOf st) rcap) ((recsOf st).take (openOf st))) := hide (HR.out.take HOL.out)
  obtain ⟨am, ham⟩ : ∃ am, hasB ((recsOf st).take (openOf st)) name = am := ⟨_, rfl⟩
  have HAM := hide ham
  have hro : openOf st ≤ rcap := Nat.le_trans ho2 rc1
  clear ham
  by_cases q1 : peer.toList = []
  · by_cases q2 : many = 0
    · by_cases q3 : sort = 0
      · skip
        cases am
        · go_enter Try.func66, Try.ntmps66
          go_wp2_with fail
          go_region_with (go_at_call 69; refine (s_among ((recsOf st).take (openOf st)) name _ _ (HTK.out.carry (by repeat (first | exact alloc1 _ _ | exact Below.refl _ _ | refine Below.drew ?_)))).mono ?_; rintro e w1 ⟨rfl, rfl⟩; rw [HAM.out])
          go_wp2_with fail
          go_ret
          refine ⟨ret_int ?_, (by repeat (first | exact alloc1 _ _ | exact Below.refl _ _ | refine Below.drew ?_))⟩
          rw [HDROP.out, ahead_1 rfl, if_neg (by rw [HBK.out, HAM.out]; simp)]
          rfl
        · go_enter Try.func66, Try.ntmps66
          go_wp2_with fail
          go_region_with (go_at_call 69; refine (s_among ((recsOf st).take (openOf st)) name _ _ (HTK.out.carry (by repeat (first | exact alloc1 _ _ | exact Below.refl _ _ | refine Below.drew ?_)))).mono ?_; rintro e w1 ⟨rfl, rfl⟩; rw [HAM.out])
          go_wp2_with fail
          go_ret
          refine ⟨ret_int ?_, (by repeat (first | exact alloc1 _ _ | exact Below.refl _ _ | refine Below.drew ?_))⟩
          rw [HDROP.out, ahead_1 rfl, if_pos (by rw [HBK.out, HAM.out]; simp [varB, *])]
          exact HPN.out
      · have q3' : (sort == 0) = false := beq_eq_false_iff_ne.2 q3
        go_enter Try.func66, Try.ntmps66
        go_wp2_with fail
        go_region
        go_wp2_with fail
        go_ret
        refine ⟨ret_int ?_, (by repeat (first | exact alloc1 _ _ | exact Below.refl _ _ | refine Below.drew ?_))⟩
        rw [HDROP.out, ahead_1 rfl, if_neg (by simp [varB, *])]
        rfl
    · have q2' : (many == 0) = false := beq_eq_false_iff_ne.2 q2
      go_enter Try.func66, Try.ntmps66
      go_wp2_with fail
      go_region
      go_wp2_with fail
      go_ret
      refine ⟨ret_int ?_, (by repeat (first | exact alloc1 _ _ | exact Below.refl _ _ | refine Below.drew ?_))⟩
      rw [HDROP.out, ahead_1 rfl, if_neg (by simp [varB, *])]
      rfl
  · have q1' : (peer.toList == []) = false := beq_eq_false_iff_ne.2 q1
    go_enter Try.func66, Try.ntmps66
    go_wp2_with fail
    go_region
    go_wp2_with fail
    go_ret
    refine ⟨ret_int ?_, (by repeat (first | exact alloc1 _ _ | exact Below.refl _ _ | refine Below.drew ?_))⟩
    rw [HDROP.out, ahead_1 rfl, if_neg (by simp [varB, *])]
    rfl
end Go.Proofs.Ytlbcnmcfljaijaa
namespace Go.Proofs.Ytlbcnmcfljaijaa
open Go.RowKit

set_option maxRecDepth 100000 in
set_option maxHeartbeats 1000000 in
theorem end_2a (part : Bool) (f : Nat) (st all : List Nd) (pos bx : Nat) (a d op : Int) (rv : Value) (w : World) (hlen : st.length + f = 10) (hst : StOk st) (ok : ∀ n ∈ all, n.ok) (ha : a = pos) (hpl : pos < all.length) (hd : d = (st.length + 1 : Nat)) (hop : op = openOf st) (hx : LookAt w bx part all) (hr : TextsAt w rv (recsOf st)) (hnil : recsOf st = [] → rv = .slice none 0 0) (name peer : ByteArray) (many sort : Int) (hbad : f = 0 ∨ (recB ⟨2, name, peer, many, sort⟩ && !withinB st name) = false) (hn : all[pos] = ⟨2, name, peer, many, sort⟩) :
    Calls Try.prog 66 #[.pointer (some ⟨bx, 0, none⟩), .int .i64 a, .int .i64 d, rv, .int .i64 op] w fun e w' => e = .returned (.int .i64 (endPos all (ahead (talkS part) f st (all.drop pos)))) ∧ Below w.heap.size w w' := by
  have HX := hide hx
  have HR := hide hr
  have HO := hide ok
  have HL := hide hlen
  have HST := hide hst
  have HNIL := hide hnil
  obtain ⟨i0, hi, hz0, hz1, hz2⟩ := info_parts Try.infoS
  have HI := hide (And.intro hi (And.intro hz0 (And.intro hz1 hz2)))
  obtain ⟨rao, rcap, rfl, rc1, rc2, -⟩ := hr
  subst ha hd hop
  obtain ⟨xao, xcap, x0, x1, x2, x3, x4⟩ := hx
  obtain ⟨b, o, rfl, hrow⟩ := x4 (by intro h; simp [h] at hpl)
  have hnode := hrow.get pos hpl
  have HDROP := hide (show all.drop pos = ⟨2, name, peer, many, sort⟩ :: all.drop (pos + 1) by rw [← hn]; exact drop_cons hpl)
  have HN1 := hide (show Nd.ok ⟨2, name, peer, many, sort⟩ by rw [← hn]; exact HO.out _ (List.getElem_mem hpl))
  have HPN := hide (pos_next hpl)
  rw [hn] at hnode
  obtain ⟨c0, c1, c2, c3, c4⟩ := hnode
  dsimp only at c0 c1 c2 c3 c4
  have hbw : b < w.heap.size := World.block_lt_of_cell? w _ c0
  have hbx : bx < w.heap.size := World.block_lt_of_cell? w _ x0
  have HXA : Hid (∀ ob, (w.alloc ob).cell? ⟨bx, 1, none⟩ = some (.bool part)) := hide (fun ob => ((alloc1 w ob).cell (p := ⟨bx, 1, none⟩) hbx).trans x1)
  have hp2 : decide ((all.length : Int) ≤ (pos : Int)) = false := decide_eq_false (by omega)
  have hdl : st.length ≤ 10 := by omega
  have HOL := hide (open_le st)
  have ho2 : openOf st ≤ (recsOf st).length := open_le st
  have hrl : (recsOf st).length ≤ 10 := by have := recs_len st; omega
  clear hrow hn ok hlen hst x4 hi hz0 hz1 hz2 hnil
  have HBAD := hide hbad
  clear hbad
  have HWI := hide (within_eq st name)
  obtain ⟨wo, hwo⟩ : ∃ wo, wordB name = wo := ⟨_, rfl⟩
  obtain ⟨am, ham⟩ : ∃ am, hasB (recsOf st) name = am := ⟨_, rfl⟩
  have HWO := hide hwo
  have HAM := hide ham
  clear ham hwo
  by_cases q1 : peer.toList = []
  · by_cases q2 : many = 0
    · by_cases q3 : sort = 0
      · skip
        cases wo
        · go_enter Try.func66, Try.ntmps66
          go_wp2_with (go_at_call 73; refine (s_name name _ HN1.out.1).mono ?_; rintro e w1 ⟨rfl, rfl⟩; rw [HWO.out])
          go_ret
          refine ⟨ret_int ?_, (by repeat (first | exact alloc1 _ _ | exact Below.refl _ _ | refine Below.drew ?_))⟩
          rw [HDROP.out]
          cases f
          · rw [ahead_20 rfl]; rfl
          · rw [ahead_2 rfl, if_neg (by simp [recB, HWO.out])]; rfl
        · cases am
          · cases f with
            | zero =>
              have hd2 : decide ((st.length : Int) + 1 ≤ 10) = false := decide_eq_false (by have := HL.out; omega)
              go_enter Try.func66, Try.ntmps66
              go_wp2_with (first | (go_at_call 73; refine (s_name name _ HN1.out.1).mono ?_; rintro e w1 ⟨rfl, rfl⟩; rw [HWO.out]) | (go_at_call 69; refine (s_among (recsOf st) name _ _ (HR.out.carry (by repeat (first | exact alloc1 _ _ | exact Below.refl _ _ | refine Below.drew ?_)))).mono ?_; rintro e w1 ⟨rfl, rfl⟩; rw [HAM.out]))
              go_ret
              refine ⟨ret_int ?_, (by repeat (first | exact alloc1 _ _ | exact Below.refl _ _ | refine Below.drew ?_))⟩
              rw [HDROP.out, ahead_20 rfl]; rfl
            | succ f =>
              exfalso
              rcases HBAD.out with h | h
              · omega
              · rw [HWI.out, HAM.out] at h
                simp [recB, HWO.out, q1, q2, q3] at h
          · go_enter Try.func66, Try.ntmps66
            go_wp2_with (first | (go_at_call 73; refine (s_name name _ HN1.out.1).mono ?_; rintro e w1 ⟨rfl, rfl⟩; rw [HWO.out]) | (go_at_call 69; refine (s_among (recsOf st) name _ _ (HR.out.carry (by repeat (first | exact alloc1 _ _ | exact Below.refl _ _ | refine Below.drew ?_)))).mono ?_; rintro e w1 ⟨rfl, rfl⟩; rw [HAM.out]))
            go_ret
            refine ⟨ret_int ?_, (by repeat (first | exact alloc1 _ _ | exact Below.refl _ _ | refine Below.drew ?_))⟩
            rw [HDROP.out]
            cases f
            · rw [ahead_20 rfl]; rfl
            · rw [ahead_2 rfl, if_neg (by rw [HWI.out]; simp [HAM.out])]; rfl
      · have q3' : (sort == 0) = false := beq_eq_false_iff_ne.2 q3
        go_enter Try.func66, Try.ntmps66
        go_wp2_with fail
        go_ret
        refine ⟨ret_int ?_, (by repeat (first | exact alloc1 _ _ | exact Below.refl _ _ | refine Below.drew ?_))⟩
        rw [HDROP.out]
        cases f
        · rw [ahead_20 rfl]; rfl
        · rw [ahead_2 rfl, if_neg (by simp [recB, *])]; rfl
    · have q2' : (many == 0) = false := beq_eq_false_iff_ne.2 q2
      go_enter Try.func66, Try.ntmps66
      go_wp2_with fail
      go_ret
      refine ⟨ret_int ?_, (by repeat (first | exact alloc1 _ _ | exact Below.refl _ _ | refine Below.drew ?_))⟩
      rw [HDROP.out]
      cases f
      · rw [ahead_20 rfl]; rfl
      · rw [ahead_2 rfl, if_neg (by simp [recB, *])]; rfl
  · have q1' : (peer.toList == []) = false := beq_eq_false_iff_ne.2 q1
    go_enter Try.func66, Try.ntmps66
    go_wp2_with fail
    go_ret
    refine ⟨ret_int ?_, (by repeat (first | exact alloc1 _ _ | exact Below.refl _ _ | refine Below.drew ?_))⟩
    rw [HDROP.out]
    cases f
    · rw [ahead_20 rfl]; rfl
    · rw [ahead_2 rfl, if_neg (by simp [recB, *])]; rfl
end Go.Proofs.Ytlbcnmcfljaijaa
namespace Go.Proofs.Ytlbcnmcfljaijaa
open Go.RowKit

set_option maxRecDepth 100000 in
set_option maxHeartbeats 1000000 in
theorem end_t (part : Bool) (f : Nat) (hih : ∀ g, f = g + 1 → EndCalls part g) (st all : List Nd) (pos bx : Nat) (a d op : Int) (rv : Value) (w : World) (hlen : st.length + f = 10) (hst : StOk st) (ok : ∀ n ∈ all, n.ok) (ha : a = pos) (hpl : pos < all.length) (hd : d = (st.length + 1 : Nat)) (hop : op = openOf st) (hx : LookAt w bx part all) (hr : TextsAt w rv (recsOf st)) (hnil : recsOf st = [] → rv = .slice none 0 0) (name peer : ByteArray) (op0 many sort : Int) (hk : op0 ≠ 0 ∧ op0 ≠ 1 ∧ op0 ≠ 2) (hn : all[pos] = ⟨op0, name, peer, many, sort⟩) :
    Calls Try.prog 66 #[.pointer (some ⟨bx, 0, none⟩), .int .i64 a, .int .i64 d, rv, .int .i64 op] w fun e w' => e = .returned (.int .i64 (endPos all (ahead (talkS part) f st (all.drop pos)))) ∧ Below w.heap.size w w' := by
  have HX := hide hx
  have HR := hide hr
  have HO := hide ok
  have HL := hide hlen
  have HST := hide hst
  have HNIL := hide hnil
  obtain ⟨i0, hi, hz0, hz1, hz2⟩ := info_parts Try.infoS
  have HI := hide (And.intro hi (And.intro hz0 (And.intro hz1 hz2)))
  obtain ⟨rao, rcap, rfl, rc1, rc2, -⟩ := hr
  subst ha hd hop
  obtain ⟨xao, xcap, x0, x1, x2, x3, x4⟩ := hx
  obtain ⟨b, o, rfl, hrow⟩ := x4 (by intro h; simp [h] at hpl)
  have hnode := hrow.get pos hpl
  have HDROP := hide (show all.drop pos = ⟨op0, name, peer, many, sort⟩ :: all.drop (pos + 1) by rw [← hn]; exact drop_cons hpl)
  have HN1 := hide (show Nd.ok ⟨op0, name, peer, many, sort⟩ by rw [← hn]; exact HO.out _ (List.getElem_mem hpl))
  have HPN := hide (pos_next hpl)
  rw [hn] at hnode
  obtain ⟨c0, c1, c2, c3, c4⟩ := hnode
  dsimp only at c0 c1 c2 c3 c4
  have hbw : b < w.heap.size := World.block_lt_of_cell? w _ c0
  have hbx : bx < w.heap.size := World.block_lt_of_cell? w _ x0
  have HXA : Hid (∀ ob, (w.alloc ob).cell? ⟨bx, 1, none⟩ = some (.bool part)) := hide (fun ob => ((alloc1 w ob).cell (p := ⟨bx, 1, none⟩) hbx).trans x1)
  have hp2 : decide ((all.length : Int) ≤ (pos : Int)) = false := decide_eq_false (by omega)
  have hdl : st.length ≤ 10 := by omega
  have HOL := hide (open_le st)
  have ho2 : openOf st ≤ (recsOf st).length := open_le st
  have hrl : (recsOf st).length ≤ 10 := by have := recs_len st; omega
  clear hrow hn ok hlen hst x4 hi hz0 hz1 hz2 hnil
  obtain ⟨tb, htb⟩ : ∃ tb, talkS part ⟨op0, name, peer, many, sort⟩ = tb := ⟨_, rfl⟩
  have HTB := hide htb
  clear htb
  obtain ⟨y0, y1, y2⟩ := hk
  have HK := hide (And.intro y0 (And.intro y1 y2))
  have z0 : (op0 == 0) = false := beq_eq_false_iff_ne.2 y0
  have z1 : (op0 == 1) = false := beq_eq_false_iff_ne.2 y1
  have z2 : (op0 == 2) = false := beq_eq_false_iff_ne.2 y2
  clear y0 y1 y2
  have HPE : Hid (talkS part ⟨op0, name, peer, many, sort⟩ = true → (peer.toList == []) = false) := hide (fun h => by
    simp only [talkS, wordB, nameB, Bool.and_eq_true] at h
    have h1 : 1 ≤ peer.size := by simpa using h.1.1.1.1.1.1
    rw [beq_eq_false_iff_ne]
    intro e
    rw [Go.ByteArray.toList_eq] at e
    have h2 : peer.data.size = 0 := by simpa using congrArg List.length e
    have h3 : peer.size = peer.data.size := rfl
    omega)
  cases tb
  · obtain ⟨pe, hpe⟩ : ∃ pe, (peer.toList == []) = pe := ⟨_, rfl⟩
    obtain ⟨me, hme⟩ : ∃ me, (many == 0) = me := ⟨_, rfl⟩
    obtain ⟨se, hse⟩ : ∃ se, (sort == 0) = se := ⟨_, rfl⟩
    cases pe
    all_goals cases me
    all_goals cases se
    all_goals
      go_enter Try.func66, Try.ntmps66
      go_wp2_with (go_at_call 74; refine (s_talk part bx ⟨op0, name, peer, many, sort⟩ _ HN1.out (HXA.out _)).mono ?_; rintro e w1 ⟨rfl, hb1⟩; rw [HTB.out]; obtain ⟨d0, d1, d2, d3, d4⟩ := NodeAt.carry (B := _) (boxed0 w ⟨op0, name, peer, many, sort⟩ 87) (by simp) hb1; dsimp only at d0 d1 d2 d3 d4; have hs1 : w.heap.size < w1.heap.size := (by have := hb1.size; simp at this; omega); have HB1 : Hid (Below w.heap.size w w1) := hide ((alloc1 _ _).trans (hb1.mono (by simp))); clear hb1)
      all_goals
        go_ret
        refine ⟨ret_int ?_, HB1.out⟩
        rw [HDROP.out]
        cases f
        · rw [ahead_t0 HK.out.1 HK.out.2.1]; rfl
        · rw [ahead_t HK.out.1 HK.out.2.1 HK.out.2.2, HTB.out]; rfl
  · cases f with
    | zero =>
      have hd2 : decide ((st.length : Int) + 1 ≤ 10) = false := decide_eq_false (by have := HL.out; omega)
      have q1' := HPE.out HTB.out
      go_enter Try.func66, Try.ntmps66
      go_wp2_with (go_at_call 74; refine (s_talk part bx ⟨op0, name, peer, many, sort⟩ _ HN1.out (HXA.out _)).mono ?_; rintro e w1 ⟨rfl, hb1⟩; rw [HTB.out]; obtain ⟨d0, d1, d2, d3, d4⟩ := NodeAt.carry (B := _) (boxed0 w ⟨op0, name, peer, many, sort⟩ 87) (by simp) hb1; dsimp only at d0 d1 d2 d3 d4; have hs1 : w.heap.size < w1.heap.size := (by have := hb1.size; simp at this; omega); have HB1 : Hid (Below w.heap.size w w1) := hide ((alloc1 _ _).trans (hb1.mono (by simp))); clear hb1)
      all_goals
        go_ret
        refine ⟨ret_int ?_, HB1.out⟩
        rw [HDROP.out, ahead_t0 HK.out.1 HK.out.2.1]; rfl
    | succ f =>
      have hd2 : decide ((st.length : Int) + 1 ≤ 10) = true := decide_eq_true (by have := HL.out; omega)
      have HF := hide (hih f rfl)
      have HMB : Hid (many = (many.toNat : Int) ∧ many.toNat ≤ 4) := hide (by have := HTB.out; simp [talkS, manyB] at this; have h2 := this.1.1.2; omega)
      clear hih
      have q1' := HPE.out HTB.out
      go_enter Try.func66, Try.ntmps66
      go_wp2_with (first | (go_at_call 74; refine (s_talk part bx ⟨op0, name, peer, many, sort⟩ _ HN1.out (HXA.out _)).mono ?_; rintro e w1 ⟨rfl, hb1⟩; rw [HTB.out]; obtain ⟨d0, d1, d2, d3, d4⟩ := NodeAt.carry (B := _) (boxed0 w ⟨op0, name, peer, many, sort⟩ 87) (by simp) hb1; dsimp only at d0 d1 d2 d3 d4; have hs1 : w.heap.size < w1.heap.size := (by have := hb1.size; simp at this; omega); have HB1 : Hid (Below w.heap.size w w1) := hide ((alloc1 _ _).trans (hb1.mono (by simp))); clear hb1) | (go_at_call 75; refine (s_kids part f HF.out (⟨op0, name, peer, many, sort⟩ :: st) all (pos + 1) bx many.toNat _ _ _ _ _ (by have := HL.out; simp; omega) ⟨.inl HK.out.2.2, HST.out⟩ HO.out (by omega) (by omega) HMB.out.1 HMB.out.2 (by simp) (by simp [openOf, recsOf, HK.out.2.2]) (HX.out.carry HB1.out) (by rw [recs_talk HK.out.2.2]; exact HR.out.carry HB1.out) (by rw [recs_talk HK.out.2.2]; exact HNIL.out)).mono ?_; rintro e w2 ⟨rfl, hb2⟩; have HB2 := hide hb2; clear hb2))
      go_ret
      refine ⟨ret_int ?_, HB1.out.trans (HB2.out.mono HB1.out.size)⟩
      rw [HDROP.out, ahead_t HK.out.1 HK.out.2.1 HK.out.2.2, HTB.out]; rfl
end Go.Proofs.Ytlbcnmcfljaijaa
namespace Go.Proofs.Ytlbcnmcfljaijaa
open Go.RowKit Go.Maps Go.ChangeMaps Go.MapKept

def FsAt (w : World) (b n : Nat) (fs : ByteArray → Int) : Prop :=
  ∃ D : DataW Unit, w.ownsMap Try.prog 9 (plainElem Try.prog 2) b n D ∧ ∀ t kl, keyOf Try.prog 9 (.string t) = some kl → D.atKey kl (.lit (.int .i64 0)) = .lit (.int .i64 (fs t))
theorem FsAt.keep {w w' : World} {fs : ByteArray → Int} {b n : Nat} {l : List Nat} (h : FsAt w b n fs) (ha : Apart w w' l) (hn : b ∉ l) : FsAt w' b n fs := by
  obtain ⟨D, h1, h2⟩ := h
  refine ⟨D, ?_, h2⟩
  obtain ⟨es', clock, he, hr⟩ := h1
  exact ⟨es', clock, (ha.block b (Array.getElem?_eq_some_iff.1 he).1 hn).trans he, hr⟩
theorem FsAt.lt {w : World} {fs : ByteArray → Int} {b n : Nat} (h : FsAt w b n fs) : b < w.heap.size := by
  obtain ⟨D, h1, h2⟩ := h
  exact h1.lt
structure Kept (w w' : World) (base : Nat) (l : List Nat) : Prop where
  os : w'.os = w.os
  tape : w'.tape = w.tape
  output : w'.output = w.output
  size : w.heap.size ≤ w'.heap.size
  block : ∀ b, b < base → b ∉ l → w'.heap[b]? = w.heap[b]?
theorem Kept.refl (w : World) (base : Nat) (l : List Nat) : Kept w w base l := ⟨rfl, rfl, rfl, Nat.le_refl _, fun _ _ _ => rfl⟩
theorem Kept.trans {a b c : World} {base : Nat} {l : List Nat} (h : Kept a b base l) (h' : Kept b c base l) : Kept a c base l :=
  ⟨h'.os.trans h.os, h'.tape.trans h.tape, h'.output.trans h.output, Nat.le_trans h.size h'.size, fun k hk hn => (h'.block k hk hn).trans (h.block k hk hn)⟩
theorem Apart.kept {w w' : World} {l l' : List Nat} {base : Nat} (h : Apart w w' l') (hb : base ≤ w.heap.size) (hl : ∀ b ∈ l', b ∈ l ∨ base ≤ b) : Kept w w' base l :=
  ⟨h.os, h.tape, h.output, h.size, fun b hlt hn => h.block b (Nat.lt_of_lt_of_le hlt hb) (fun hm => by rcases hl b hm with q | q; exact hn q; omega)⟩
theorem Kept.sl {w w' : World} {base B : Nat} {l : List Nat} {v : Value} {ns : List Nd} (h : Kept w w' base l) (hB : B ≤ base) (hl : ∀ b ∈ l, B ≤ b) (hs : SlAt w B v ns) : SlAt w' B v ns :=
  hs.carry ⟨h.os, h.tape, h.output, h.size, fun k hk => h.block k (by omega) (fun hm => absurd (hl k hm) (by omega))⟩
structure WeAt (w : World) (wb mb base : Nat) (sv ev : Value) (nf : Nat) (W : Wv) : Prop where
  box : BoxL w wb [sv, ev, .int .i64 0, .map (some mb)]
  st : RStateOwn w base sv W.sts
  ed : REdgeOwn w base ev W.eds
  fs : FsAt w mb nf W.fs
  dis : ∀ b ∈ vblocks sv, b ∉ vblocks ev
  low : wb < base ∧ mb < base ∧ wb ≠ mb
  sz : base ≤ w.heap.size
theorem WeAt.keep {w w' : World} {wb mb base nf : Nat} {sv ev : Value} {W : Wv} {l : List Nat} (h : WeAt w wb mb base sv ev nf W) (ha : Apart w w' l) (hl : ∀ b ∈ l, w.heap.size ≤ b) : WeAt w' wb mb base sv ev nf W :=
  have no : ∀ b, b < w.heap.size → b ∉ l := fun b hb hm => absurd (hl b hm) (by omega)
  ⟨h.box.keep ha (no _ h.box.lt), h.st.keep ha (fun b hb => no b (h.st.fresh.hi b hb)), h.ed.keep ha (fun b hb => no b (h.ed.fresh.hi b hb)), h.fs.keep ha (no _ h.fs.lt), h.dis, h.low, Nat.le_trans h.sz ha.size⟩
theorem WeAt.below {w w' : World} {wb mb base nf : Nat} {sv ev : Value} {W : Wv} (h : WeAt w wb mb base sv ev nf W) (hb : Below w.heap.size w w') : WeAt w' wb mb base sv ev nf W := h.keep (below_apart hb) (by simp)
end Go.Proofs.Ytlbcnmcfljaijaa
