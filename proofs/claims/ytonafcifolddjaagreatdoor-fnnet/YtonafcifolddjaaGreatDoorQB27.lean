/- without: a list without one of its messages. -/
import Derived.Test.YtonafcifolddjaaGreatDoorQB26
import Derived.ArgAppend
import Derived.Laws.AppendOwnNone
namespace Go.Proofs.YtonafcifolddjaaGreatDoor
open Go.RowKit
attribute [local go_sem ↓] Go.wp_at_zero Go.wp_at_succ

theorem RMsgs.take {w : World} {b : Nat} : ∀ {l : List RMsg} {o : Nat} (k : Nat), RMsgs w b o l → RMsgs w b o (l.take k)
  | [], _, k, _ => by rw [List.take_nil]; trivial
  | _ :: _, _, 0, _ => trivial
  | _ :: _, _, k + 1, h => ⟨h.1, RMsgs.take k h.2⟩
theorem RMsgs.drop {w : World} {b : Nat} : ∀ {l : List RMsg} {o : Nat} (k : Nat), RMsgs w b o l → RMsgs w b (o + k * 4) (l.drop k)
  | [], _, k, _ => by rw [List.drop_nil]; trivial
  | _ :: _, o, 0, h => by simpa using h
  | _ :: l, o, k + 1, h => by
    have := RMsgs.drop k h.2
    rw [show o + 4 + k * 4 = o + (k + 1) * 4 by omega] at this
    exact this
set_option maxRecDepth 100000 in
set_option maxHeartbeats 1000000 in
theorem i_without (l : List RMsg) (k : Nat) (v : Value) (w : World) (hk : k < l.length) (h4 : l.length ≤ 4096) (hv : RMsgSl w w.heap.size v l) :
    Calls Tryz.prog 39 #[v, .int .i64 (k : Int)] w fun e w' => ∃ v', e = .returned v' ∧ RMsgSl w' w'.heap.size v' (l.eraseIdx k) ∧ Below w.heap.size w w' := by
  obtain ⟨i0, hi, hz0, hz1, hz2⟩ := info_parts Tryz.infoRMsg
  have HI := hide (And.intro hi (And.intro hz0 (And.intro hz1 hz2)))
  obtain ⟨ao, cap, rfl, hc, hm, hr⟩ := hv
  obtain ⟨b, o, rfl, hbB, hrow⟩ := hr (by intro h; simp [h] at hk)
  have HROW := hide hrow
  have HE := hide (List.eraseIdx_eq_take_drop_succ l k)
  clear hr hi hz0 hz1 hz2 hrow
  go_enter Tryz.func39, Tryz.ntmps39
  go_wp2_with fail
  refine wp_region_tail 8 (by kernel_rfl) (by kernel_rfl) (fun W hW => ?_)
  simp only [List.take_succ_cons, List.take_zero, List.drop_succ_cons, List.drop_zero]
  have hne := grown_some W
  have HWE := hide hW
  clear hW
  repeat (go_big_quiet_step (fail))
  refine wpQuiet_nil ?_
  intro w2 hw2
  have HB2 : Hid (Below w.heap.size w w2) := hide (by rw [HWE.out] at hw2; exact hw2)
  clear hw2 hne HWE
  obtain ⟨m, hmm⟩ : ∃ m, l.length - (k + 1) = m := ⟨_, rfl⟩
  obtain ⟨ad, had, had2⟩ : ∃ ad : Addr, (if cap = k + 1 then some (⟨b, o, none⟩ : Addr) else some ⟨b, o + (k + 1) * 4, none⟩) = some ad ∧ (0 < m → ad = ⟨b, o + (k + 1) * 4, none⟩) := by
    by_cases h : cap = k + 1
    · exact ⟨_, if_pos h, fun hm0 => absurd hm0 (by omega)⟩
    · exact ⟨_, if_neg h, fun _ => rfl⟩
  rw [had, hmm]
  obtain ⟨c2, hc2⟩ : ∃ c2, cap - (k + 1) = c2 := ⟨_, rfl⟩
  rw [hc2]
  have HMM := hide hmm
  have HR2 := hide (HROW.out.carry hbB HB2.out)
  have hol : ((l.take k).flatMap RMsg.cells).length = k * 4 := by rw [msgs_len, List.length_take]; omega
  have hnl : ((l.drop (k + 1)).flatMap RMsg.cells).length = m * 4 := by rw [msgs_len, List.length_drop, hmm]
  have HOE : Hid ((l.take k).flatMap RMsg.cells ++ (l.drop (k + 1)).flatMap RMsg.cells = (l.eraseIdx k).flatMap RMsg.cells ∧ (l.eraseIdx k).length = k + m) := hide ⟨by rw [HE.out, List.flatMap_append], by rw [HE.out, List.length_append, List.length_take, List.length_drop]; omega⟩
  refine wpList_append_arg w2 rfl (.tmp 8) (.tmp 12) 23 rfl 25 i0 (.agg #[.string ByteArray.empty, .string ByteArray.empty, .string ByteArray.empty, .int .i64 0]) 4 56 Tryz.underlying23 HI.out.1 HI.out.2.1 HI.out.2.2.1 HI.out.2.2.2 rfl (by decide) b o k k ((l.take k).flatMap RMsg.cells) rfl hol (fun j u hj => ?_) ad m c2 ((l.drop (k + 1)).flatMap RMsg.cells) rfl hnl (fun j u hj => ?_) (msgs_one _) (fun hle j hj => ?_) (by unfold maxLen; omega) (by omega) (fun hle => ?_) (fun hlt v3 w3 hown3 hgr3 => ?_)
  · have := msgs_cell (HR2.out.take k) j u hj
    rwa [show ((⟨b, o, none⟩ : Addr).add j) = ⟨b, o + j, none⟩ by unfold Addr.add; split <;> simp_all] at this
  · have hm0 : 0 < m := by
      have := (List.getElem?_eq_some_iff.1 hj).1
      omega
    rw [had2 hm0]
    exact msgs_cell (HR2.out.drop (k + 1)) j u hj
  · omega
  · obtain rfl : m = 0 := by omega
    have hd : l.drop (k + 1) = [] := List.drop_eq_nil_of_le (by omega)
    have HEE : Hid (l.eraseIdx k = l.take k) := hide (by rw [HE.out, hd, List.append_nil])
    have hsc : w2.setCells b (o + k * 4) ((l.drop (k + 1)).flatMap RMsg.cells) = w2 := by rw [hd]; rfl
    rw [hsc]
    clear hol hnl had2 had hmm hc2 hd hsc
    go_wp2_with fail
    go_ret
    refine ⟨_, rfl, ?_, HB2.out⟩
    rw [HEE.out]
    exact ⟨some ⟨b, o, none⟩, k, by rw [List.length_take, Nat.min_eq_left (by omega)]; rfl, by rw [List.length_take]; omega, by rw [List.length_take]; omega, fun _ => ⟨b, o, rfl, Nat.lt_of_lt_of_le hbB HB2.out.size, HR2.out.take k⟩⟩
  · have HB3 : Hid (Below w.heap.size w w3) := hide (HB2.out.trans (((Apart.grown_none hgr3).below (Nat.le_refl _) (by simp)).mono HB2.out.size))
    have HS3 : Hid (RMsgSl w3 w3.heap.size v3 (l.eraseIdx k)) := hide (by
      have h3 : RMsgOwn w3 w2.heap.size v3 (l.eraseIdx k) := by
        unfold RMsgOwn
        rw [HOE.out.2, ← HOE.out.1]
        exact hown3
      exact h3.sl (by rw [HOE.out.2]; omega))
    clear hol hnl had2 had hmm hc2 hown3 hgr3
    go_wp2_with fail
    go_ret
    exact ⟨_, rfl, HS3.out, HB3.out⟩
end Go.Proofs.YtonafcifolddjaaGreatDoor
/- NetTake of the program. -/
namespace Go.Proofs.YtonafcifolddjaaGreatDoor
open Go.RowKit
attribute [local go_sem ↓] Go.wp_at_zero Go.wp_at_succ

set_option maxRecDepth 100000 in
set_option maxHeartbeats 1000000 in
theorem i_take {E : Errs} (f t : ByteArray) (l : List RMsg) (v : Value) (w : World) (hf : f.size ≤ maxLen) (ht : t.size ≤ maxLen) (hok : ∀ m ∈ l, m.ok ∧ m.fit) (hv : RMsgSl w w.heap.size v l) (hs : SentAt w E) :
    Calls Tryz.prog 8 #[v, .string f, .string t] w fun e w' => NetAns w w' e (pickL true l f t) (pickM l f t) (findW l f t).code := by
  have HS := hide hs
  have HOK := hide (fun m hm => (hok m hm).1)
  have HFIT := hide (fun m hm => (hok m hm).2)
  have HV := hide hv
  have HF := hide hf
  have HT := hide ht
  obtain ⟨ao, cap, rfl, hc, hm, hr⟩ := hv
  have HR := hide hr
  clear hr hs hok
  obtain ⟨y, hy⟩ : ∃ y, findW l f t = y := ⟨_, rfl⟩
  have HY := hide hy
  by_cases hyf : y = .normal
  · subst hyf
    obtain ⟨k, hk, hkl, hkn, hnet⟩ := find_fine hy
    obtain ⟨p1, p2⟩ := pick_yes true hy hk
    rw [p1, p2, hy]
    have h36 := net_len hnet
    obtain ⟨b, o, rfl, hbB, hrow⟩ := HR.out (by intro h; simp [h] at hkl)
    have hnode := hrow.get k hkl
    have HND : Hid (∀ W, Below w.heap.size w W → RMsgAt W b (o + k * 4) l[k]) := hide (fun W hb => hnode.carry hbB hb)
    have HX : Hid (l.getD k noMsg = l[k]) := hide (by rw [List.getD_eq_getElem?_getD, List.getElem?_eq_getElem hkl]; rfl)
    rw [HX.out]
    obtain ⟨x1, hx1⟩ : ∃ x1, x1 = l[k] := ⟨_, rfl⟩
    rw [← hx1] at HND ⊢
    have HFX := hide (HFIT.out x1 (by rw [hx1]; exact List.getElem_mem hkl))
    have HFN := hide hkn
    have HEL : Hid ((l.eraseIdx k).length ≤ 4096) := hide (by rw [List.length_eraseIdx]; split <;> omega)
    have HEF : Hid (∀ m ∈ l.eraseIdx k, m.fit) := hide (fun m hm => HFIT.out m (List.mem_of_mem_eraseIdx hm))
    rw [if_pos rfl]
    clear hx1 hnode hrow hnet p1 p2 hk HX hkn hy
    go_enter Tryz.func8, Tryz.ntmps8
    go_wp2_with (go_at_call 36; refine (i_find (E := E) f t l _ _ HF.out HT.out HOK.out ((HV.out.carry (malloc1 _ _)).up (malloc1 _ _).size) (HS.out.carry (malloc1 _ _))).mono ?_; rintro e w1 ⟨he, hb1⟩; rw [HY.out, HFN.out, show whyV E .normal = Value.nilIface from rfl] at he; subst he; have HB1 : Hid (Below (w.heap.size + 1) (w.alloc outZ) w1) := hide (by have := hb1; simpa [outZ] using this); clear hb1)
    have HBW := hide (out_cells HB1.out).2.2
    obtain ⟨c0, c1, c2, c3⟩ := HND.out _ HBW.out
    go_region_with (first
      | (go_at_call 39; refine (i_without l k _ _ hkl (by omega) ((HV.out.carry HBW.out.drew).up HBW.out.drew.size)).mono ?_; rintro e w1' ⟨v1, rfl, hs1, hb1'⟩; have HS1 := hide hs1; have HB1' : Hid (Below (w.heap.size + 1) (w.alloc outZ) w1') := hide (HB1.out.drew.trans (hb1'.mono (by have := HB1.out.size; simp at this; exact this))); have HBW' := hide (out_cells HB1'.out).2.2; obtain ⟨pb, pd, rfl⟩ := hs1.shape; obtain ⟨b0, b1, b2, b3⟩ := HND.out _ HBW'.out; clear hs1 hb1')
      | (go_at_call 37; refine (own_net (l.eraseIdx k) _ _ HEL.out HEF.out HS1.out).mono ?_; rintro e w2 ⟨v2, rfl, ho2, hb2⟩; have HO2 := hide ho2; have HB2 : Hid (Below (w.heap.size + 1) (w.alloc outZ) w2) := hide (HB1'.out.trans (hb2.mono (by have := HB1'.out.size; simp at this; exact this))); have HBW2 : Hid (Below w.heap.size w w2) := hide (HBW'.out.trans (hb2.mono HBW'.out.size)); obtain ⟨pa, pc, rfl⟩ := owns_shape ho2; obtain ⟨d0, d1, d2, d3⟩ := HND.out _ HBW2.out; clear ho2 hb2)
      | (go_at_call 38; refine (own_msg x1 _ HFX.out).mono ?_; rintro e w3 ⟨rfl, hb3⟩; have HB3 : Hid (Below (w.heap.size + 1) (w.alloc outZ) w3) := hide (HB2.out.trans (hb3.mono (by have := HB2.out.size; simp at this; exact this))); have HO3 := hide (HO2.out.below hb3); obtain ⟨⟨e0, e1, e2, e3, e4, e5⟩, ez, -⟩ := out_cells HB3.out; have z0 := ez 0; have z1 := ez 1; have z2 := ez 2; have z3 := ez 3; have z4 := ez 4; have z5 := ez 5; clear hb3 ez; unfold RMsg.val))
    all_goals
      obtain ⟨W4, hW4⟩ : ∃ W4, W4 = ((((((w3.setCell ⟨w.heap.size, 0, none⟩ (.slice pa (l.eraseIdx k).length pc)).setCell ⟨w.heap.size, 1, none⟩ (.string x1.frm)).setCell ⟨w.heap.size, 2, none⟩ (.string x1.to)).setCell ⟨w.heap.size, 3, none⟩ (.string x1.label)).setCell ⟨w.heap.size, 4, none⟩ (.int .i64 x1.sort)).setCell ⟨w.heap.size, 5, none⟩ (.int .i64 0)) := ⟨_, rfl⟩
      rw [← hW4]
      have hE := ans_end (m := x1) (c := 0) HB3.out (show w.heap.size < w1'.heap.size by have := HB1'.out.size; simp at this; omega) HO3.out hW4
      obtain ⟨⟨r0, r1, r2, r3, r4, r5⟩, hE1, hE2⟩ := hE
      clear hW4 e0 e1 e2 e3 e4 e5 z0 z1 z2 z3 z4 z5 d0 d1 d2 d3 c0 c1 c2 c3 b0 b1 b2 b3
      go_wp2_with fail
      refine bodyPost_ret_by (v := netV (.slice pa (l.eraseIdx k).length pc) x1 0) ?_ rfl ⟨_, rfl, hE1, hE2⟩
      unfold netV
      unfold results
      go_simp
  · obtain ⟨p1, p2⟩ := pick_no true (show findW l f t ≠ .normal by rw [hy]; exact hyf)
    rw [p1, p2, hy]
    obtain ⟨a, ha⟩ : ∃ a, whyV E y = .iface 136 (.pointer (some a)) := by cases y <;> first | exact absurd rfl hyf | exact ⟨_, rfl⟩
    have HA := hide ha
    have HYF := hide hyf
    obtain ⟨cd, hcd⟩ : ∃ cd, y.code = cd := ⟨_, rfl⟩
    have HCD := hide hcd
    rw [hcd]
    obtain ⟨fn, hfn⟩ : ∃ fn, findN l f t = fn := ⟨_, rfl⟩
    have HFN := hide hfn
    clear p1 p2 ha hcd hfn hy hyf
    go_enter Tryz.func8, Tryz.ntmps8
    go_wp2_with (first
      | (go_at_call 36; refine (i_find (E := E) f t l _ _ HF.out HT.out HOK.out ((HV.out.carry (malloc1 _ _)).up (malloc1 _ _).size) (HS.out.carry (malloc1 _ _))).mono ?_; rintro e w1 ⟨he, hb1⟩; rw [HY.out, HFN.out, HA.out] at he; subst he; have HB1 : Hid (Below (w.heap.size + 1) (w.alloc outZ) w1) := hide (by have := hb1; simpa [outZ] using this); clear hb1)
      | (go_at_call 31; have hno := net_out_why (E := E) y HYF.out none 0 0 w1 (HS.out.carry (out_cells HB1.out).2.2); rw [HA.out, HCD.out] at hno; refine hno.mono ?_; rintro e w2 ⟨v2, rfl, ho2, hb2⟩; have HB2 : Hid (Below (w.heap.size + 1) (w.alloc outZ) w2) := hide (HB1.out.trans (hb2.mono (by have := HB1.out.size; simp at this; exact this))); have HO2 := hide ho2; obtain ⟨pa, pc, rfl⟩ := owns_shape ho2; obtain ⟨⟨e0, e1, e2, e3, e4, e5⟩, ez, -⟩ := out_cells HB2.out; have z0 := ez 0; have z1 := ez 1; have z2 := ez 2; have z3 := ez 3; have z4 := ez 4; have z5 := ez 5; clear hb2 ez ho2 hno; unfold netV noMsg))
    obtain ⟨W4, hW4⟩ : ∃ W4, W4 = ((((((w2.setCell ⟨w.heap.size, 0, none⟩ (.slice pa 0 pc)).setCell ⟨w.heap.size, 1, none⟩ (.string ByteArray.empty)).setCell ⟨w.heap.size, 2, none⟩ (.string ByteArray.empty)).setCell ⟨w.heap.size, 3, none⟩ (.string ByteArray.empty)).setCell ⟨w.heap.size, 4, none⟩ (.int .i64 0)).setCell ⟨w.heap.size, 5, none⟩ (.int .i64 cd)) := ⟨_, rfl⟩
    rw [← hW4]
    have hE := ans_end (m := noMsg) (c := cd) HB2.out (show w.heap.size < w1.heap.size by have := HB1.out.size; simp at this; omega) HO2.out hW4
    obtain ⟨⟨r0, r1, r2, r3, r4, r5⟩, hE1, hE2⟩ := hE
    clear hW4 e0 e1 e2 e3 e4 e5 z0 z1 z2 z3 z4 z5
    refine bodyPost_ret_by (v := netV (.slice pa 0 pc) noMsg cd) ?_ rfl ⟨_, rfl, hE1, hE2⟩
    unfold netV noMsg
    unfold noMsg at r1 r2 r3 r4
    simp only [List.length_nil] at r0 r1 r2 r3 r4
    unfold results
    go_simp
end Go.Proofs.YtonafcifolddjaaGreatDoor
/- NetTake of the specification. -/
namespace Go.Proofs.YtonafcifolddjaaGreatDoor
open Go.RowKit
attribute [local go_sem ↓] Go.wp_at_zero Go.wp_at_succ

theorem own_grown' {w w2 : World} {o : Obj} {n c : Nat} (hg : (w.alloc o).grownBy w2 (Value.slice (some ⟨w.heap.size, 0, none⟩) n c).ownBlock) : Below w.heap.size w w2 := by
  have h1 : Apart w w2 ([] ++ vblocks (.slice (some ⟨w.heap.size, 0, none⟩) n c)) := (below_apart (malloc1 w o)).trans (grownBy_apart hg)
  exact h1.below (Nat.le_refl _) (by simp [vblocks, cellBlocks])
set_option maxRecDepth 100000 in
set_option maxHeartbeats 1000000 in
theorem s_cut (l : List RMsg) (k : Nat) (v : Value) (w : World) (hk : k < l.length) (h4 : l.length ≤ 4096) (hv : RMsgSl w w.heap.size v l) :
    Calls Tryz.prog 56 #[v, .int .i64 (k : Int)] w fun e w' => ∃ v', e = .returned v' ∧ RMsgOwn w' w.heap.size v' (l.eraseIdx k) ∧ Below w.heap.size w w' := by
  obtain ⟨i0, hi, hz0, hz1, hz2⟩ := info_parts Tryz.infoRMsg
  have HI := hide (And.intro hi (And.intro hz0 (And.intro hz1 hz2)))
  obtain ⟨ao, cap, rfl, hc, hm, hr⟩ := hv
  obtain ⟨b, o, rfl, hbB, hrow⟩ := hr (by intro h; simp [h] at hk)
  have HROW : Hid (∀ W, Below w.heap.size w W → RMsgs W b o l) := hide (fun W hb => hrow.carry hbB hb)
  have HE := hide (List.eraseIdx_eq_take_drop_succ l k)
  obtain ⟨m, hmm⟩ : ∃ m, l.length - (k + 1) = m := ⟨_, rfl⟩
  have HOL : Hid (((l.take k).flatMap RMsg.cells).length = k * 4) := hide (by rw [msgs_len, List.length_take]; omega)
  have HNL : Hid (((l.drop (k + 1)).flatMap RMsg.cells).length = m * 4) := hide (by rw [msgs_len, List.length_drop, hmm])
  have HOE : Hid ((l.take k).flatMap RMsg.cells ++ (l.drop (k + 1)).flatMap RMsg.cells = (l.eraseIdx k).flatMap RMsg.cells ∧ (l.eraseIdx k).length = k + m) := hide ⟨by rw [HE.out, List.flatMap_append], by rw [HE.out, List.length_append, List.length_take, List.length_drop]; omega⟩
  clear hr hi hz0 hz1 hz2 hrow
  by_cases hcap : cap = k + 1
  · subst hcap
    obtain rfl : m = 0 := by omega
    have HDN : Hid (l.drop (k + 1) = []) := hide (List.drop_eq_nil_of_le (by omega))
    clear hmm
    go_enter Tryz.func56, Tryz.ntmps56
    go_wp2_with (first | (at_builtin; refine wpList_append_own _ rfl (.tmp 11) (.tmp 15) 23 rfl w.heap.size 25 i0 (.agg #[.string ByteArray.empty, .string ByteArray.empty, .string ByteArray.empty, .int .i64 0]) 4 56 Tryz.underlying23 HI.out.1 HI.out.2.1 HI.out.2.2.1 HI.out.2.2.2 rfl (by decide) (.slice pa k pc) k ((l.take k).flatMap RMsg.cells) rfl HO1.out ⟨b, o, none⟩ 0 0 ((l.drop (k + 1)).flatMap RMsg.cells) rfl HNL.out (fun j u hj => by rw [HDN.out] at hj; simp at hj) (msgs_one _) (by unfold maxLen; omega) (by omega) HB1.out.size ?_; intro v2 w2 hown2 hgr2 _; have HO2 : Hid (RMsgOwn w2 w.heap.size v2 (l.eraseIdx k)) := hide (by unfold RMsgOwn; rw [HOE.out.2, ← HOE.out.1]; exact hown2); have HB2 : Hid (Below w.heap.size w w2) := hide (HB1.out.trans ((grownBy_apart hgr2).below HB1.out.size (owns_fresh HO1.out).lo)); clear hown2 hgr2) | (at_builtin; refine wpList_append_own _ rfl (.tmp 6) (.tmp 9) 23 rfl w.heap.size 25 i0 (.agg #[.string ByteArray.empty, .string ByteArray.empty, .string ByteArray.empty, .int .i64 0]) 4 56 Tryz.underlying23 HI.out.1 HI.out.2.1 HI.out.2.2.1 HI.out.2.2.2 rfl (by decide) (.slice (some ⟨w.heap.size, 0, none⟩) 0 0) 0 [] rfl (own_empty w) ⟨b, o, none⟩ k (k + 1) ((l.take k).flatMap RMsg.cells) rfl HOL.out (fun j u hj => msgs_cell ((HROW.out _ (malloc1 _ _)).take k) j u hj) (msgs_one _) (by unfold maxLen; omega) (by omega) (by simp) ?_; intro v1 w1 hown1 hgr1 _; have HB1 : Hid (Below w.heap.size w w1) := hide (own_grown' hgr1); have HO1 : Hid (w1.ownsRow w.heap.size 25 4 v1 k ((l.take k).flatMap RMsg.cells)) := hide (by have := hown1; simpa using this); obtain ⟨pa, pc, rfl⟩ := owns_shape HO1.out; clear hown1 hgr1))
    go_ret
    exact ⟨_, rfl, HO2.out, HB2.out⟩
  · obtain ⟨c2, hc2⟩ : ∃ c2, cap - (k + 1) = c2 := ⟨_, rfl⟩
    go_enter Tryz.func56, Tryz.ntmps56
    go_wp2_with (first | (at_builtin; refine wpList_append_own _ rfl (.tmp 11) (.tmp 15) 23 rfl w.heap.size 25 i0 (.agg #[.string ByteArray.empty, .string ByteArray.empty, .string ByteArray.empty, .int .i64 0]) 4 56 Tryz.underlying23 HI.out.1 HI.out.2.1 HI.out.2.2.1 HI.out.2.2.2 rfl (by decide) (.slice pa k pc) k ((l.take k).flatMap RMsg.cells) rfl HO1.out ⟨b, o + (k + 1) * 4, none⟩ m c2 ((l.drop (k + 1)).flatMap RMsg.cells) rfl HNL.out (fun j u hj => msgs_cell ((HROW.out _ HB1.out).drop (k + 1)) j u hj) (msgs_one _) (by unfold maxLen; omega) (by omega) HB1.out.size ?_; intro v2 w2 hown2 hgr2 _; have HO2 : Hid (RMsgOwn w2 w.heap.size v2 (l.eraseIdx k)) := hide (by unfold RMsgOwn; rw [HOE.out.2, ← HOE.out.1]; exact hown2); have HB2 : Hid (Below w.heap.size w w2) := hide (HB1.out.trans ((grownBy_apart hgr2).below HB1.out.size (owns_fresh HO1.out).lo)); clear hown2 hgr2) | (at_builtin; refine wpList_append_own _ rfl (.tmp 6) (.tmp 9) 23 rfl w.heap.size 25 i0 (.agg #[.string ByteArray.empty, .string ByteArray.empty, .string ByteArray.empty, .int .i64 0]) 4 56 Tryz.underlying23 HI.out.1 HI.out.2.1 HI.out.2.2.1 HI.out.2.2.2 rfl (by decide) (.slice (some ⟨w.heap.size, 0, none⟩) 0 0) 0 [] rfl (own_empty w) ⟨b, o, none⟩ k cap ((l.take k).flatMap RMsg.cells) rfl HOL.out (fun j u hj => msgs_cell ((HROW.out _ (malloc1 _ _)).take k) j u hj) (msgs_one _) (by unfold maxLen; omega) (by omega) (by simp) ?_; intro v1 w1 hown1 hgr1 _; have HB1 : Hid (Below w.heap.size w w1) := hide (own_grown' hgr1); have HO1 : Hid (w1.ownsRow w.heap.size 25 4 v1 k ((l.take k).flatMap RMsg.cells)) := hide (by have := hown1; simpa using this); obtain ⟨pa, pc, rfl⟩ := owns_shape HO1.out; clear hown1 hgr1))
    go_ret
    exact ⟨_, rfl, HO2.out, HB2.out⟩
set_option maxRecDepth 100000 in
set_option maxHeartbeats 1000000 in
theorem s_take (f t : ByteArray) (l : List RMsg) (v : Value) (w : World) (hf : f.size ≤ maxLen) (ht : t.size ≤ maxLen) (hok : ∀ m ∈ l, m.ok) (hv : RMsgSl w w.heap.size v l) :
    Calls Tryz.prog 18 #[v, .string f, .string t] w fun e w' => NetAns w w' e (pickL true l f t) (pickM l f t) (findW l f t).code := by
  have HOK := hide hok
  have HV := hide hv
  have HF := hide hf
  have HT := hide ht
  obtain ⟨ao, cap, rfl, hc, hm, hr⟩ := hv
  have HR := hide hr
  obtain ⟨i0, hi, hz0, hz1, hz2⟩ := info_parts Tryz.infoRMsg
  have HI := hide (And.intro hi (And.intro hz0 (And.intro hz1 hz2)))
  clear hr hok hi hz0 hz1 hz2
  obtain ⟨y, hy⟩ : ∃ y, findW l f t = y := ⟨_, rfl⟩
  have HY := hide hy
  by_cases hyf : y = .normal
  · subst hyf
    obtain ⟨k, hk, hkl, hkn, hnet⟩ := find_fine hy
    obtain ⟨p1, p2⟩ := pick_yes true hy hk
    rw [p1, p2, hy]
    have h36 := net_len hnet
    obtain ⟨b, o, rfl, hbB, hrow⟩ := HR.out (by intro h; simp [h] at hkl)
    have hnode := hrow.get k hkl
    have HRW : Hid (∀ W, Below w.heap.size w W → RMsgs W b o l) := hide (fun W hb => hrow.carry hbB hb)
    have HND : Hid (∀ W, Below w.heap.size w W → RMsgAt W b (o + k * 4) l[k]) := hide (fun W hb => hnode.carry hbB hb)
    have HX : Hid (l.getD k noMsg = l[k]) := hide (by rw [List.getD_eq_getElem?_getD, List.getElem?_eq_getElem hkl]; rfl)
    have HAT : Hid (atG 0 f t l = (k : Int)) := hide (by rw [atG_zero, atN, hk])
    rw [HX.out]
    obtain ⟨x1, hx1⟩ : ∃ x1, x1 = l[k] := ⟨_, rfl⟩
    rw [← hx1] at HND ⊢
    rw [if_pos rfl]
    clear hx1 hnode hrow hnet p1 p2 hk HX hkn hy
    go_enter Tryz.func18, Tryz.ntmps18
    go_wp2_with (first
      | (go_at_call 54; refine (s_begin (c := 0) (by rw [HY.out]; rfl) _ _ HF.out HT.out HOK.out ((HV.out.carry (malloc1 _ _)).up (malloc1 _ _).size)).mono ?_; rintro e w1 ⟨rfl, hb1⟩; have HB1 : Hid (Below (w.heap.size + 1) (w.alloc outZ) w1) := hide (by have := hb1; simpa [outZ] using this); have HBW := hide (out_cells HB1.out).2.2; clear hb1)
      | (go_at_call 55; refine (s_at (s := 0) HAT.out _ _ (by omega) (Nat.zero_le _) ((HV.out.carry HBW.out).up HBW.out.size)).mono ?_; rintro e w2 ⟨rfl, hb2⟩; have HB2 : Hid (Below (w.heap.size + 1) (w.alloc outZ) w2) := hide (HB1.out.trans (hb2.mono (by have := HB1.out.size; simp at this; exact this))); have HBW2 := hide (out_cells HB2.out).2.2; obtain ⟨b0, b1, b2, b3⟩ := HND.out _ HBW2.out; clear hb2))
    go_region_with ((go_at_call 56; refine (s_cut l k _ _ hkl (by omega) ((HV.out.carry HBW2.out.drew).up HBW2.out.drew.size)).mono ?_; rintro e w3 ⟨v3, rfl, ho3, hb3⟩; have HB3 : Hid (Below (w.heap.size + 1) (w.alloc outZ) w3) := hide (HB2.out.drew.trans (hb3.mono (by have := HB2.out.size; simp at this; exact this))); have HO3 := hide ho3; obtain ⟨pa, pc, rfl⟩ := owns_shape ho3; obtain ⟨⟨e0, e1, e2, e3, e4, e5⟩, ez, hbw3⟩ := out_cells HB3.out; have z0 := ez 0; have z1 := ez 1; have z2 := ez 2; have z3 := ez 3; have z4 := ez 4; have z5 := ez 5; obtain ⟨d0, d1, d2, d3⟩ := HND.out _ hbw3; clear hb3 ez hbw3 ho3))
    all_goals
      obtain ⟨W4, hW4⟩ : ∃ W4, W4 = ((((((w3.setCell ⟨w.heap.size, 0, none⟩ (.slice pa (l.eraseIdx k).length pc)).setCell ⟨w.heap.size, 1, none⟩ (.string x1.frm)).setCell ⟨w.heap.size, 2, none⟩ (.string x1.to)).setCell ⟨w.heap.size, 3, none⟩ (.string x1.label)).setCell ⟨w.heap.size, 4, none⟩ (.int .i64 x1.sort)).setCell ⟨w.heap.size, 5, none⟩ (.int .i64 0)) := ⟨_, rfl⟩
      rw [← hW4]
      have hE := ans_end (m := x1) (c := 0) HB3.out (show w.heap.size < w2.heap.size by have := HB2.out.size; simp at this; omega) HO3.out hW4
      obtain ⟨⟨r0, r1, r2, r3, r4, r5⟩, hE1, hE2⟩ := hE
      clear hW4 e0 e1 e2 e3 e4 e5 z0 z1 z2 z3 z4 z5 d0 d1 d2 d3 b0 b1 b2 b3
      go_wp2_with fail
      refine bodyPost_ret_by (v := netV (.slice pa (l.eraseIdx k).length pc) x1 0) ?_ rfl ⟨_, rfl, hE1, hE2⟩
      unfold netV
      unfold results
      go_simp
  · obtain ⟨p1, p2⟩ := pick_no true (show findW l f t ≠ .normal by rw [hy]; exact hyf)
    rw [p1, p2, hy]
    obtain ⟨cd, hcd⟩ : ∃ cd, y.code = cd := ⟨_, rfl⟩
    have HCD : Hid ((findW l f t).code = cd) := hide (by rw [hy]; exact hcd)
    rw [hcd]
    have hcn : ¬ cd = 0 := by rw [← hcd]; cases y <;> first | exact absurd rfl hyf | decide
    clear p1 p2 hcd hy hyf
    go_enter Tryz.func18, Tryz.ntmps18
    go_wp2_with (first
      | (go_at_call 54; refine (s_begin HCD.out _ _ HF.out HT.out HOK.out ((HV.out.carry (malloc1 _ _)).up (malloc1 _ _).size)).mono ?_; rintro e w1 ⟨rfl, hb1⟩; have HB1 : Hid (Below (w.heap.size + 1) (w.alloc outZ) w1) := hide (by have := hb1; simpa [outZ] using this); clear hb1)
      | (go_at_call 52; refine (s_ill cd w1).mono ?_; rintro e w2 ⟨v2, rfl, ho2, hb2⟩; have HB2 : Hid (Below (w.heap.size + 1) (w.alloc outZ) w2) := hide (HB1.out.trans (hb2.mono (by have := HB1.out.size; simp at this; exact this))); have HO2 := hide ho2; obtain ⟨pa, pc, rfl⟩ := owns_shape ho2; obtain ⟨⟨e0, e1, e2, e3, e4, e5⟩, ez, -⟩ := out_cells HB2.out; have z0 := ez 0; have z1 := ez 1; have z2 := ez 2; have z3 := ez 3; have z4 := ez 4; have z5 := ez 5; clear hb2 ez ho2; unfold netV noMsg))
    obtain ⟨W4, hW4⟩ : ∃ W4, W4 = ((((((w2.setCell ⟨w.heap.size, 0, none⟩ (.slice pa 0 pc)).setCell ⟨w.heap.size, 1, none⟩ (.string ByteArray.empty)).setCell ⟨w.heap.size, 2, none⟩ (.string ByteArray.empty)).setCell ⟨w.heap.size, 3, none⟩ (.string ByteArray.empty)).setCell ⟨w.heap.size, 4, none⟩ (.int .i64 0)).setCell ⟨w.heap.size, 5, none⟩ (.int .i64 cd)) := ⟨_, rfl⟩
    rw [← hW4]
    have hE := ans_end (m := noMsg) (c := cd) HB2.out (show w.heap.size < w1.heap.size by have := HB1.out.size; simp at this; omega) HO2.out hW4
    obtain ⟨⟨r0, r1, r2, r3, r4, r5⟩, hE1, hE2⟩ := hE
    clear hW4 e0 e1 e2 e3 e4 e5 z0 z1 z2 z3 z4 z5
    refine bodyPost_ret_by (v := netV (.slice pa 0 pc) noMsg cd) ?_ rfl ⟨_, rfl, hE1, hE2⟩
    unfold netV noMsg
    unfold noMsg at r1 r2 r3 r4
    simp only [List.length_nil] at r0 r1 r2 r3 r4
    unfold results
    go_simp
end Go.Proofs.YtonafcifolddjaaGreatDoor
