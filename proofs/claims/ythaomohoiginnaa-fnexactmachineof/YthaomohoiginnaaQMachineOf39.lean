/- The specification's maker of machines: make at a talk. -/
import Derived.Test.YthaomohoiginnaaQMachineOf36
import Derived.Test.YthaomohoiginnaaQMachineOf37
import Derived.Test.YthaomohoiginnaaQMachineOf38
namespace Go.Proofs.Ythaomohoiginnaa
open Go.RowKit
attribute [local go_sem ↓] Go.wp_at_zero Go.wp_at_succ

set_option maxRecDepth 100000 in
set_option maxHeartbeats 4000000 in
theorem make_talk (f : Nat) (hf : MakeCalls f) (st all r : List Nd) (pos : Nat) (w : World) (xb B base : Nat) (v sv ev : Value) (z : Int) (nv fv : Value) (sts : List RState) (eds : List REdge) (ns : List ByteArray) (fis : List Int) (op K : Int) (name peer : ByteArray) (M : Nat) (sort : Int) (hpos : pos < all.length) (hx : all[pos] = ⟨op, name, peer, (M : Int), sort⟩)
    (hop : (op = 5 ∧ K = 1) ∨ (op = 6 ∧ K = 2)) (hM : M ≤ 4) (ha : kidsBy (ahead (talkS true) f st) M [] (all.drop (pos + 1)) = some r) (hall : all.length ≤ 40) (hlen : fis.length = ns.length) (hns : ns.length + (f + 1) ≤ 100) (hcs : cntS all pos = sts.length) (hed : eds.length + (all.length - pos) ≤ 900) (h : MkAt w xb B base v sv ev z nv fv all sts eds ns fis) :
    Calls Try.prog 128 #[.pointer (some ⟨xb, 0, none⟩), .int .i64 (pos : Int)] w fun e w' => Made w w' xb B base v z (rows4 sv ev nv fv) all ns fis e (svKids (Go.Proofs.Ythaomohoiginnaa.sv f ns fis) (fun l k => firstOf ns fis k l) (sts.length : Int) M (all.drop (pos + 1)) (sts ++ [⟨K, peer⟩], eds)) := by
  have H := hide h
  have c0 := h.box.cell 0 _ rfl
  have c1 := h.box.cell 1 _ rfl
  have cz := h.box.fz
  have hxw := h.box.lt
  obtain ⟨i0, hi, hz0, hz1, hz2⟩ := info_parts Try.infoRState
  have HI := hide (And.intro hi (And.intro hz0 (And.intro hz1 hz2)))
  obtain ⟨ps, cs, hps⟩ := owns_shape h.st
  obtain ⟨ao, cap, rfl, hc1, hc2, hr⟩ := h.sl
  obtain ⟨b, o, rfl, hb, hrow⟩ := hr (by rintro rfl; simp at hpos)
  have hnode := hrow.get pos hpos
  rw [hx] at hnode
  obtain ⟨d0, d1, d2, d3, d4⟩ := hnode
  dsimp only at d0 d1 d2 d3 d4
  subst hps
  have hst : sts.length ≤ 40 := by have := cntS_le all pos; omega
  have hcs2 : cntS all (pos + 1) = (sts ++ [(⟨K, peer⟩ : RState)]).length := by
    rw [cntS_succ hpos, hx, hcs, List.length_append, List.length_singleton]
    rcases hop with ⟨rfl, -⟩ | ⟨rfl, -⟩ <;> rfl
  obtain ⟨fin, hfin⟩ : ∃ x, svKids (Go.Proofs.Ythaomohoiginnaa.sv f ns fis) (fun l k => firstOf ns fis k l) (sts.length : Int) M (all.drop (pos + 1)) (sts ++ [⟨K, peer⟩], eds) = x := ⟨_, rfl⟩
  rw [hfin]
  obtain ⟨WN, hWN⟩ : ∃ WN, WN = (w.alloc (.cells #[.int .i64 op, .string name, .string peer, .int .i64 (M : Int), .int .i64 sort] 79)) := ⟨_, rfl⟩
  have HN3 : Hid (WN.cell? ⟨w.heap.size, 3, none⟩ = some (.int .i64 (M : Int))) := hide (by rw [hWN]; simp)
  have HWN0 : Hid (Mk4 w WN xb (rows4 (.slice ps sts.length cs) ev nv fv) (rows4 (.slice ps sts.length cs) ev nv fv)) := hide (by rw [hWN]; exact Mk4.far (Far.ofBelow (malloc1 w _)))
  have HWN := hide hWN
  clear hWN
  have HST : Hid (∀ (W : World) (sv2 : Value), MkAt W xb B base (.slice (some ⟨b, o, none⟩) all.length cap) sv2 ev z nv fv all (sts ++ [⟨K, peer⟩]) eds ns fis → Mkept w W base xb → Mk4 WN W xb (rows4 (.slice ps sts.length cs) ev nv fv) (rows4 sv2 ev nv fv) → TalkS w WN W xb B base (.slice (some ⟨b, o, none⟩) all.length cap) z (rows4 (.slice ps sts.length cs) ev nv fv) all ns fis (Go.Proofs.Ythaomohoiginnaa.sv f ns fis) (ahead (talkS true) f st) (sts.length : Int) r fin M (pos + 1) (sts ++ [⟨K, peer⟩]) eds sv2 ev nv fv) := hide (fun W sv2 h1 h2 h3 => ⟨h1, ⟨[], ha⟩, by omega, hcs2, by omega, hfin, h2, h3⟩)
  have HF := hide hf
  have HLEN := hide hlen
  have HW1 : Hid (∀ ob : Obj, MkAt (w.alloc ob).drew xb B base (.slice (some ⟨b, o, none⟩) all.length cap) (.slice ps sts.length cs) ev z nv fv all sts eds ns fis) := hide (fun ob => (H.out.far ((Far.ofBelow (Below.refl _ _)).alloc ob)).drew)
  have HOLD := hide (rows_old H.out)
  have HS := hide H.out.sz
  have HROW := hide hrow
  clear h hr hi hz0 hz1 hz2 hf ha hcs hcs2 hfin hx hrow hed hlen
  rcases hop with ⟨rfl, rfl⟩ | ⟨rfl, rfl⟩
  all_goals
    go_enter Try.func128, Try.ntmps128
    go_wp2_with fail
    go_region_law (refine stepM_at rfl (.tmp 117) (.tmp 122) 42 rfl base 98 i0 (.agg #[.int .i64 0, .string ByteArray.empty]) 2 24 Try.underlying42 HI.out.1 HI.out.2.1 HI.out.2.2.1 HI.out.2.2.2 rfl (by decide) (.slice ps sts.length cs) sts.length (sts.flatMap RState.cells) (by simp [Act.eval]) (owns_below (HW1.out _).st (malloc1 _ _)) ⟨w.heap.size + 1, 0, none⟩ 1 1 (RState.cells ⟨_, peer⟩) (by simp [Act.eval]) rfl (fun j u hj => new_row1q _ _ _ _ (by simp) j u hj) (RState.cells_one _) (by unfold maxLen; omega) (by omega) (by have := HS.out; simp; omega) ?_; intro v4 w4 hown4 hgr4 hat4; have HM4 := hide (mk_push1 (HW1.out _) _ _ hown4 hgr4 hat4); have HX4 := hide (mk4_S (w3 := (w.alloc (.cells #[.int .i64 _, .string name, .string peer, .int .i64 (M : Int), .int .i64 sort] 79)).drew) (xb := xb) (ev := ev) (nv := nv) (fv := fv) hown4 _ hgr4 hat4); have HB4 := hide ((HW1.out (.cells #[.int .i64 _, .string name, .string peer, .int .i64 (M : Int), .int .i64 sort] 79)).box.keep ((below_apart (malloc1 _ _)).trans (grownBy_apart hgr4)) (fun hm => by rw [List.nil_append] at hm; have := H.out.st.fresh.lo _ hm; have := H.out.low; omega)); have l1 := HB4.out.cell 1 _ rfl; have lz := HB4.out.fz; obtain ⟨p4, c4, rfl⟩ := owns_shape hown4; clear hown4 hgr4 hat4)
    all_goals
      obtain ⟨W5, hW5⟩ : ∃ W, W = w4.setCell ⟨xb, 1, none⟩ (.slice p4 (sts.length + 1) c4) := ⟨_, rfl⟩
      rw [← hW5]
      have HM5 := hide (show MkAt W5 xb B base (.slice (some ⟨b, o, none⟩) all.length cap) (.slice p4 (sts.length + 1) c4) ev z nv fv all (sts ++ [⟨_, peer⟩]) eds ns fis by rw [hW5]; exact HM4.out.1)
      have HK5 := hide (show Mkept w W5 base xb by rw [hW5]; exact ((Far.ofBelow (malloc1 w _)).ap.drew.mkept H.out.sz (by simp)).trans HM4.out.2)
      have HX5 := hide (show Mk4 WN W5 xb (rows4 (.slice ps sts.length cs) ev nv fv) (rows4 (.slice p4 (sts.length + 1) c4) ev nv fv) by rw [hW5, HWN.out]; exact (Mk4.far ⟨(Apart.refl _).drew⟩).trans HX4.out)
      have HT5 := hide (HST.out W5 _ HM5.out HK5.out HX5.out)
      clear hW5 HM4 HB4 HX4 l1 lz HM5 HK5 HX5
      go_wp2_with fail
      go_loopw [1, 11] (fun pv i wr => ∃ (k posk : Nat) (stsk : List RState) (edsk : List REdge) (svk evk nvk fvk : Value), k ≤ M ∧ i = .int .i64 k ∧ pv = .int .i64 posk ∧ TalkS w WN wr xb B base (.slice (some ⟨b, o, none⟩) all.length cap) z (rows4 (.slice ps sts.length cs) ev nv fv) all ns fis (Go.Proofs.Ythaomohoiginnaa.sv f ns fis) (ahead (talkS true) f st) (sts.length : Int) r fin (M - k) posk stsk edsk svk evk nvk fvk) (fun _ i _ => M - (intOf i).toNat)
      case atStart => exact ⟨0, pos + 1, _, eds, _, ev, nv, fv, Nat.zero_le _, rfl, by go_num, HT5.out⟩
      case round =>
        obtain ⟨k, posk, stsk, edsk, svk, evk, nvk, fvk, hk, rfl, rfl, htk⟩ := hrel
        have HTK := hide htk
        have n3 : wr.cell? ⟨w.heap.size, 3, none⟩ = some (.int .i64 (M : Int)) := htk.four.cell HN3.out (by omega) (fun hm => by have := HOLD.out _ hm; omega)
        clear htk
        by_cases hlt : k < M
        · obtain ⟨m', hm'⟩ : ∃ m', M - k = m' + 1 := ⟨M - k - 1, by omega⟩
          have HMK1 : Hid (M - (k + 1) = m') := hide (by omega)
          rw [hm'] at HTK
          obtain ⟨hpl, fstv, O, hfir, hmk, hnx, hedl⟩ := talk_round HTK.out HF.out HLEN.out hall hns
          have HFIR := hide hfir
          have HMK := hide hmk
          have HNX := hide hnx
          have e0 := HTK.out.ma.box.cell 0 _ rfl
          have hxr := HTK.out.ma.box.lt
          have hrow' := sl_row HTK.out.ma.sl (by rintro rfl; simp at hpl)
          obtain ⟨-, m1, -, -, m4⟩ := hrow'.get posk hpl
          obtain ⟨cname, hcn⟩ : ∃ x, all[posk].name = x := ⟨_, rfl⟩
          obtain ⟨csort, hcs⟩ : ∃ x, all[posk].sort = x := ⟨_, rfl⟩
          rw [hcn] at m1 HMK
          rw [hcs] at m4 HMK
          clear hfir hmk hnx hrow' hcn hcs hm'
          go_wp2_with fail
          refine wp_region_tail1 21 (.tmp 0) (.pointer (some ⟨xb, 0, none⟩)) rfl rfl rfl (by kernel_rfl) (by kernel_rfl) (fun _ _ _ _ h => h) (fun W hW => ?_)
          simp only [List.take_succ_cons, List.take_zero, List.drop_succ_cons, List.drop_zero, Act.put, List.setIfInBounds_toArray, List.set_cons_zero, List.set_cons_succ]
          have hne := grown_some W
          have k0 := grown_cell (w := W) (by rw [hW]; exact e0)
          have k1 := grown_cell (w := W) (by rw [hW]; exact m1)
          have k4 := grown_cell (w := W) (by rw [hW]; exact m4)
          have HBW : Hid (Below wr.heap.size wr W) := hide (by rw [hW]; exact Below.refl _ _)
          have HWE := hide hW
          clear hW
          repeat (go_big_quiet_step (first
            | (go_at_call 127; exact grown_more (HFIR.out _ (HBW.out.trans ((Grown.bel _).mono HBW.out.size))))))
          refine wpQuiet_nil ?_
          intro w2 hw2
          have HB2 : Hid (Below wr.heap.size wr w2) := hide (HBW.out.trans (hw2.mono HBW.out.size))
          have HM2 := hide (far_below HTK.out.ma HB2.out)
          clear hw2 hne k0 k1 k4
          go_wp2_with (first
            | (go_at_call 168; refine (mk_edge ⟨(sts.length : Int), cname, csort, fstv⟩ w2 xb base evk edsk (by omega) HM2.out.edAt).mono ?_; rintro e w3 ⟨ev3, rfl, ho3, hc3, he3⟩; have HE3 := hide (mk_edged HM2.out ho3 hc3 he3); clear ho3 hc3 he3)
            | (go_at_call 128; refine (HMK.out w3 ev3 HE3.out.1).mono ?_; rintro e w4' ⟨sv4, ev4, nv4, fv4, rfl, hm4, hk4, hx4⟩; have HM4' := hide hm4; have HK4' := hide hk4; have HX4' := hide hx4; clear hm4 hk4 hx4))
          go_roundw
          case rel =>
            refine ⟨k + 1, all.length - O.1.length, O.2.1, O.2.2, sv4, ev4, nv4, fv4, hlt, by go_num, rfl, ?_⟩
            rw [HMK1.out]
            exact HNX.out w3 w4' ev3 sv4 ev4 nv4 fv4 (((Far.ofBelow HB2.out).ap.mkept HTK.out.ma.sz (by simp)).trans HE3.out.2.1) ((Mk4.far (Far.ofBelow HB2.out)).trans HE3.out.2.2) HM4'.out HK4'.out HX4'.out
          case measure => simp [intOf]; omega
        · have hzz : M - k = 0 := by omega
          rw [hzz] at HTK
          have HSM := hide HTK.out.same
          rw [svKids] at HSM
          have HLE : Hid (((all.length - (all.drop posk).length : Nat) : Int) = (posk : Int)) := hide (by have := HTK.out.le; rw [List.length_drop]; omega)
          go_wp2_with fail
          go_ret
          rw [← HSM.out]
          exact ⟨svk, evk, nvk, fvk, ret_int HLE.out, HTK.out.ma, HTK.out.kept, HWN0.out.trans HTK.out.four⟩
end Go.Proofs.Ythaomohoiginnaa
/- The specification's maker of machines: make. -/
namespace Go.Proofs.Ythaomohoiginnaa
open Go.RowKit

theorem peer_end {n : Nd} (h : endB n = true) : n.peer = ByteArray.empty ∧ n.many = 0 := by
  simp only [endB, Bool.and_eq_true, beq_iff_eq] at h
  refine ⟨?_, h.1.2⟩
  have h1 := h.1.1.2
  rw [Go.ByteArray.toList_eq] at h1
  apply ByteArray.ext
  exact Array.ext' h1
theorem talk_op {n : Nd} (h : talkS true n = true) : (n.op = 5 ∨ n.op = 6) ∧ 1 ≤ n.many ∧ n.many ≤ 4 := by
  simp only [talkS, manyB, Bool.and_eq_true, Bool.or_eq_true, decide_eq_true_eq, beq_iff_eq, if_true] at h
  exact ⟨h.2.2, h.1.1.2⟩
theorem make_calls : ∀ f : Nat, MakeCalls f := by
  intro f
  induction f with
  | zero =>
    intro st all r pos w xb B base v sv ev z nv fv sts eds ns fis ha hall hpos hlen hns hcs hed h
    have hdr : all.drop pos = all[pos] :: all.drop (pos + 1) := List.drop_eq_getElem_cons hpos
    rw [hdr] at ha ⊢
    have hst : sts.length ≤ 1000 := by have := cntS_le all pos; omega
    by_cases h1 : all[pos].op = 1
    · rw [Go.Proofs.Ythaomohoiginnaa.sv, if_pos (by simpa using h1)]
      exact make_var all pos w xb B base v sv ev z nv fv sts eds ns fis hall hpos h1 h
    · by_cases h0 : all[pos].op = 0
      · rw [ahead_0 h0] at ha
        split at ha
        · rename_i he
          rw [Go.Proofs.Ythaomohoiginnaa.sv, if_neg (by simpa using h1), (peer_end he).1, h0]
          exact make_end all pos w xb B base v sv ev z nv fv sts eds ns fis hall hpos h0 hst h
        · cases ha
      · rw [ahead_t0 h0 h1] at ha; cases ha
  | succ f ih =>
    intro st all r pos w xb B base v sv ev z nv fv sts eds ns fis ha hall hpos hlen hns hcs hed h
    have hdr : all.drop pos = all[pos] :: all.drop (pos + 1) := List.drop_eq_getElem_cons hpos
    rw [hdr] at ha ⊢
    have hst : sts.length ≤ 1000 := by have := cntS_le all pos; omega
    by_cases h1 : all[pos].op = 1
    · rw [Go.Proofs.Ythaomohoiginnaa.sv, if_pos (by simpa using h1)]
      exact make_var all pos w xb B base v sv ev z nv fv sts eds ns fis hall hpos h1 h
    · by_cases h2 : all[pos].op = 2
      · rw [ahead_2 h2] at ha
        split at ha
        · rw [Go.Proofs.Ythaomohoiginnaa.sv, if_neg (by simpa using h1), if_pos (by simpa using h2)]
          obtain ⟨n, hn⟩ : ∃ n, all[pos] = n := ⟨_, rfl⟩
          rw [hn] at h2 ha ⊢
          obtain ⟨op, name, peer, many, sort⟩ := n
          dsimp only at h2
          subst h2
          exact make_rec f ih st all r pos w xb B base v sv ev z nv fv sts eds ns fis name peer many sort hpos hn ha hall hlen hns hcs hed h
        · cases ha
      · by_cases h0 : all[pos].op = 0
        · rw [ahead_0 h0] at ha
          split at ha
          · rename_i he
            rw [Go.Proofs.Ythaomohoiginnaa.sv, if_neg (by simpa using h1), if_neg (by simpa using h2), (peer_end he).1, (peer_end he).2, h0]
            exact make_end all pos w xb B base v sv ev z nv fv sts eds ns fis hall hpos h0 hst h
          · cases ha
        · rw [ahead_t h0 h1 h2] at ha
          split at ha
          · rename_i ht
            rw [Go.Proofs.Ythaomohoiginnaa.sv, if_neg (by simpa using h1), if_neg (by simpa using h2)]
            obtain ⟨n, hn⟩ : ∃ n, all[pos] = n := ⟨_, rfl⟩
            rw [hn] at ht ha ⊢
            obtain ⟨op, name, peer, many, sort⟩ := n
            have hop := talk_op ht
            dsimp only at hop ha ⊢
            obtain ⟨M, hM⟩ : ∃ M : Nat, many = (M : Int) := ⟨many.toNat, by omega⟩
            subst hM
            rw [Int.toNat_natCast] at ha ⊢
            exact make_talk f ih _ all r pos w xb B base v sv ev z nv fv sts eds ns fis op (kindW op) name peer M sort hpos hn (by rcases hop.1 with rfl | rfl; exact .inl ⟨rfl, rfl⟩; exact .inr ⟨rfl, rfl⟩) (by omega) ha hall hlen hns hcs hed h
          · cases ha
end Go.Proofs.Ythaomohoiginnaa
