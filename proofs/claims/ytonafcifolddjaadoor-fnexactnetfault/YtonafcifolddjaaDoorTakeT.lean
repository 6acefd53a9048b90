/- NetTake of the specification. -/
import Derived.Test.YtonafcifolddjaaDoorTakeI
namespace Go.Proofs.YtonafcifolddjaaDoor
open Go.RowKit
attribute [local go_sem ↓] Go.wp_at_zero Go.wp_at_succ

theorem own_grown' {w w2 : World} {o : Obj} {n c : Nat} (hg : (w.alloc o).grownBy w2 (Value.slice (some ⟨w.heap.size, 0, none⟩) n c).ownBlock) : Below w.heap.size w w2 := by
  have h1 : Apart w w2 ([] ++ vblocks (.slice (some ⟨w.heap.size, 0, none⟩) n c)) := (below_apart (malloc1 w o)).trans (grownBy_apart hg)
  exact h1.below (Nat.le_refl _) (by simp [vblocks, cellBlocks])
set_option maxRecDepth 100000 in
set_option maxHeartbeats 1000000 in
theorem s_cut (l : List RMsg) (k : Nat) (v : Value) (w : World) (hk : k < l.length) (h4 : l.length ≤ 4096) (hv : RMsgSl w w.heap.size v l) :
    Calls Tryd.prog 40 #[v, .int .i64 (k : Int)] w fun e w' => ∃ v', e = .returned v' ∧ RMsgOwn w' w.heap.size v' (l.eraseIdx k) ∧ Below w.heap.size w w' := by
  obtain ⟨i0, hi, hz0, hz1, hz2⟩ := info_parts Tryd.infoRMsg
  have HI := hide (And.intro hi (And.intro hz0 (And.intro hz1 hz2)))
  obtain ⟨ao, cap, rfl, hc, hm, hr⟩ := hv
  obtain ⟨b, o, rfl, hbB, hrow⟩ := hr (by intro h; simp [h] at hk)
  have HROW : Hid (∀ W, Below w.heap.size w W → RMsgs W b o l) := hide (fun W hb => hrow.carry hbB hb)
  have HE := hide (List.eraseIdx_eq_take_drop_succ l k)
  obtain ⟨m, hmm⟩ : ∃ m, l.length - (k + 1) = m := ⟨_, rfl⟩
  have HOL : Hid (((l.take k).flatMap RMsg.cells).length = k * 4) := hide (by rw [msgs_len, List.length_take]; omega)
  have HNL : Hid (((l.drop (k + 1)).flatMap RMsg.cells).length = m * 4) := hide (by rw [msgs_len, List.length_drop, hmm])
  have HOE : Hid ((l.take k).flatMap RMsg.cells ++ (l.drop (k + 1)).flatMap RMsg.cells = (l.eraseIdx k).flatMap RMsg.cells ∧ (l.eraseIdx k).length = k + m) := hide ⟨by rw [HE.out, List.flatMap_append], by rw [HE.out, List.length_append, List.length_take, List.length_drop]; omega⟩
  clear hr hi hz0 hz1 hz2 hrow
  by_cases hcap : cap = k + 1
  · subst hcap
    obtain rfl : m = 0 := by omega
    have HDN : Hid (l.drop (k + 1) = []) := hide (List.drop_eq_nil_of_le (by omega))
    clear hmm
    go_enter Tryd.func40, Tryd.ntmps40
    go_wp2_with (first | (at_builtin; refine wpList_append_own _ rfl (.tmp 11) (.tmp 15) 27 rfl w.heap.size 28 i0 (.agg #[.string ByteArray.empty, .string ByteArray.empty, .string ByteArray.empty, .int .i64 0]) 4 56 Tryd.underlying27 HI.out.1 HI.out.2.1 HI.out.2.2.1 HI.out.2.2.2 rfl (by decide) (.slice pa k pc) k ((l.take k).flatMap RMsg.cells) rfl HO1.out ⟨b, o, none⟩ 0 0 ((l.drop (k + 1)).flatMap RMsg.cells) rfl HNL.out (fun j u hj => by rw [HDN.out] at hj; simp at hj) (msgs_one _) (by unfold maxLen; omega) (by omega) HB1.out.size ?_; intro v2 w2 hown2 hgr2 _; have HO2 : Hid (RMsgOwn w2 w.heap.size v2 (l.eraseIdx k)) := hide (by unfold RMsgOwn; rw [HOE.out.2, ← HOE.out.1]; exact hown2); have HB2 : Hid (Below w.heap.size w w2) := hide (HB1.out.trans ((grownBy_apart hgr2).below HB1.out.size (owns_fresh HO1.out).lo)); clear hown2 hgr2) | (at_builtin; refine wpList_append_own _ rfl (.tmp 6) (.tmp 9) 27 rfl w.heap.size 28 i0 (.agg #[.string ByteArray.empty, .string ByteArray.empty, .string ByteArray.empty, .int .i64 0]) 4 56 Tryd.underlying27 HI.out.1 HI.out.2.1 HI.out.2.2.1 HI.out.2.2.2 rfl (by decide) (.slice (some ⟨w.heap.size, 0, none⟩) 0 0) 0 [] rfl (own_empty w) ⟨b, o, none⟩ k (k + 1) ((l.take k).flatMap RMsg.cells) rfl HOL.out (fun j u hj => msgs_cell ((HROW.out _ (malloc1 _ _)).take k) j u hj) (msgs_one _) (by unfold maxLen; omega) (by omega) (by simp) ?_; intro v1 w1 hown1 hgr1 _; have HB1 : Hid (Below w.heap.size w w1) := hide (own_grown' hgr1); have HO1 : Hid (w1.ownsRow w.heap.size 28 4 v1 k ((l.take k).flatMap RMsg.cells)) := hide (by have := hown1; simpa using this); obtain ⟨pa, pc, rfl⟩ := owns_shape HO1.out; clear hown1 hgr1))
    go_ret
    exact ⟨_, rfl, HO2.out, HB2.out⟩
  · obtain ⟨c2, hc2⟩ : ∃ c2, cap - (k + 1) = c2 := ⟨_, rfl⟩
    go_enter Tryd.func40, Tryd.ntmps40
    go_wp2_with (first | (at_builtin; refine wpList_append_own _ rfl (.tmp 11) (.tmp 15) 27 rfl w.heap.size 28 i0 (.agg #[.string ByteArray.empty, .string ByteArray.empty, .string ByteArray.empty, .int .i64 0]) 4 56 Tryd.underlying27 HI.out.1 HI.out.2.1 HI.out.2.2.1 HI.out.2.2.2 rfl (by decide) (.slice pa k pc) k ((l.take k).flatMap RMsg.cells) rfl HO1.out ⟨b, o + (k + 1) * 4, none⟩ m c2 ((l.drop (k + 1)).flatMap RMsg.cells) rfl HNL.out (fun j u hj => msgs_cell ((HROW.out _ HB1.out).drop (k + 1)) j u hj) (msgs_one _) (by unfold maxLen; omega) (by omega) HB1.out.size ?_; intro v2 w2 hown2 hgr2 _; have HO2 : Hid (RMsgOwn w2 w.heap.size v2 (l.eraseIdx k)) := hide (by unfold RMsgOwn; rw [HOE.out.2, ← HOE.out.1]; exact hown2); have HB2 : Hid (Below w.heap.size w w2) := hide (HB1.out.trans ((grownBy_apart hgr2).below HB1.out.size (owns_fresh HO1.out).lo)); clear hown2 hgr2) | (at_builtin; refine wpList_append_own _ rfl (.tmp 6) (.tmp 9) 27 rfl w.heap.size 28 i0 (.agg #[.string ByteArray.empty, .string ByteArray.empty, .string ByteArray.empty, .int .i64 0]) 4 56 Tryd.underlying27 HI.out.1 HI.out.2.1 HI.out.2.2.1 HI.out.2.2.2 rfl (by decide) (.slice (some ⟨w.heap.size, 0, none⟩) 0 0) 0 [] rfl (own_empty w) ⟨b, o, none⟩ k cap ((l.take k).flatMap RMsg.cells) rfl HOL.out (fun j u hj => msgs_cell ((HROW.out _ (malloc1 _ _)).take k) j u hj) (msgs_one _) (by unfold maxLen; omega) (by omega) (by simp) ?_; intro v1 w1 hown1 hgr1 _; have HB1 : Hid (Below w.heap.size w w1) := hide (own_grown' hgr1); have HO1 : Hid (w1.ownsRow w.heap.size 28 4 v1 k ((l.take k).flatMap RMsg.cells)) := hide (by have := hown1; simpa using this); obtain ⟨pa, pc, rfl⟩ := owns_shape HO1.out; clear hown1 hgr1))
    go_ret
    exact ⟨_, rfl, HO2.out, HB2.out⟩
set_option maxRecDepth 100000 in
set_option maxHeartbeats 1000000 in
theorem s_take (f t : ByteArray) (l : List RMsg) (v : Value) (w : World) (hf : f.size ≤ maxLen) (ht : t.size ≤ maxLen) (hok : ∀ m ∈ l, m.ok) (hv : RMsgSl w w.heap.size v l) :
    Calls Tryd.prog 20 #[v, .string f, .string t] w fun e w' => NetAns w w' e (pickL true l f t) (pickM l f t) (findW l f t).code := by
  have HOK := hide hok
  have HV := hide hv
  have HF := hide hf
  have HT := hide ht
  obtain ⟨ao, cap, rfl, hc, hm, hr⟩ := hv
  have HR := hide hr
  obtain ⟨i0, hi, hz0, hz1, hz2⟩ := info_parts Tryd.infoRMsg
  have HI := hide (And.intro hi (And.intro hz0 (And.intro hz1 hz2)))
  clear hr hok hi hz0 hz1 hz2
  obtain ⟨y, hy⟩ : ∃ y, findW l f t = y := ⟨_, rfl⟩
  have HY := hide hy
  by_cases hyf : y = .normal
  · subst hyf
    obtain ⟨k, hk, hkl, hkn, hnet⟩ := find_fine hy
    obtain ⟨p1, p2⟩ := pick_yes true hy hk
    rw [p1, p2, hy]
    have h36 := net_len hnet
    obtain ⟨b, o, rfl, hbB, hrow⟩ := HR.out (by intro h; simp [h] at hkl)
    have hnode := hrow.get k hkl
    have HRW : Hid (∀ W, Below w.heap.size w W → RMsgs W b o l) := hide (fun W hb => hrow.carry hbB hb)
    have HND : Hid (∀ W, Below w.heap.size w W → RMsgAt W b (o + k * 4) l[k]) := hide (fun W hb => hnode.carry hbB hb)
    have HX : Hid (l.getD k noMsg = l[k]) := hide (by rw [List.getD_eq_getElem?_getD, List.getElem?_eq_getElem hkl]; rfl)
    have HAT : Hid (atG 0 f t l = (k : Int)) := hide (by rw [atG_zero, atN, hk])
    rw [HX.out]
    obtain ⟨x1, hx1⟩ : ∃ x1, x1 = l[k] := ⟨_, rfl⟩
    rw [← hx1] at HND ⊢
    rw [if_pos rfl]
    clear hx1 hnode hrow hnet p1 p2 hk HX hkn hy
    go_enter Tryd.func20, Tryd.ntmps20
    go_wp2_with (first
      | (go_at_call 35; refine (s_begin (c := 0) (by rw [HY.out]; rfl) _ _ HF.out HT.out HOK.out ((HV.out.carry (malloc1 _ _)).up (malloc1 _ _).size)).mono ?_; rintro e w1 ⟨rfl, hb1⟩; have HB1 : Hid (Below (w.heap.size + 1) (w.alloc outZ) w1) := hide (by have := hb1; simpa [outZ] using this); have HBW := hide (out_cells HB1.out).2.2; clear hb1)
      | (go_at_call 36; refine (s_at (s := 0) HAT.out _ _ (by omega) (Nat.zero_le _) ((HV.out.carry HBW.out).up HBW.out.size)).mono ?_; rintro e w2 ⟨rfl, hb2⟩; have HB2 : Hid (Below (w.heap.size + 1) (w.alloc outZ) w2) := hide (HB1.out.trans (hb2.mono (by have := HB1.out.size; simp at this; exact this))); have HBW2 := hide (out_cells HB2.out).2.2; obtain ⟨b0, b1, b2, b3⟩ := HND.out _ HBW2.out; clear hb2))
    go_region_with ((go_at_call 40; refine (s_cut l k _ _ hkl (by omega) ((HV.out.carry HBW2.out.drew).up HBW2.out.drew.size)).mono ?_; rintro e w3 ⟨v3, rfl, ho3, hb3⟩; have HB3 : Hid (Below (w.heap.size + 1) (w.alloc outZ) w3) := hide (HB2.out.drew.trans (hb3.mono (by have := HB2.out.size; simp at this; exact this))); have HO3 := hide ho3; obtain ⟨pa, pc, rfl⟩ := owns_shape ho3; obtain ⟨⟨e0, e1, e2, e3, e4, e5⟩, ez, hbw3⟩ := out_cells HB3.out; have z0 := ez 0; have z1 := ez 1; have z2 := ez 2; have z3 := ez 3; have z4 := ez 4; have z5 := ez 5; obtain ⟨d0, d1, d2, d3⟩ := HND.out _ hbw3; clear hb3 ez hbw3 ho3))
    all_goals
      obtain ⟨W4, hW4⟩ : ∃ W4, W4 = ((((((w3.setCell ⟨w.heap.size, 0, none⟩ (.slice pa (l.eraseIdx k).length pc)).setCell ⟨w.heap.size, 1, none⟩ (.string x1.frm)).setCell ⟨w.heap.size, 2, none⟩ (.string x1.to)).setCell ⟨w.heap.size, 3, none⟩ (.string x1.label)).setCell ⟨w.heap.size, 4, none⟩ (.int .i64 x1.sort)).setCell ⟨w.heap.size, 5, none⟩ (.int .i64 0)) := ⟨_, rfl⟩
      rw [← hW4]
      have hE := ans_end (m := x1) (c := 0) HB3.out (show w.heap.size < w2.heap.size by have := HB2.out.size; simp at this; omega) HO3.out hW4
      obtain ⟨⟨r0, r1, r2, r3, r4, r5⟩, hE1, hE2⟩ := hE
      clear hW4 e0 e1 e2 e3 e4 e5 z0 z1 z2 z3 z4 z5 d0 d1 d2 d3 b0 b1 b2 b3
      go_wp2_with fail
      refine bodyPost_ret_by (v := netV (.slice pa (l.eraseIdx k).length pc) x1 0) ?_ rfl ⟨_, rfl, hE1, hE2⟩
      unfold netV
      unfold results
      go_simp
  · obtain ⟨p1, p2⟩ := pick_no true (show findW l f t ≠ .normal by rw [hy]; exact hyf)
    rw [p1, p2, hy]
    obtain ⟨cd, hcd⟩ : ∃ cd, y.code = cd := ⟨_, rfl⟩
    have HCD : Hid ((findW l f t).code = cd) := hide (by rw [hy]; exact hcd)
    rw [hcd]
    have hcn : ¬ cd = 0 := by rw [← hcd]; cases y <;> first | exact absurd rfl hyf | decide
    clear p1 p2 hcd hy hyf
    go_enter Tryd.func20, Tryd.ntmps20
    go_wp2_with (first
      | (go_at_call 35; refine (s_begin HCD.out _ _ HF.out HT.out HOK.out ((HV.out.carry (malloc1 _ _)).up (malloc1 _ _).size)).mono ?_; rintro e w1 ⟨rfl, hb1⟩; have HB1 : Hid (Below (w.heap.size + 1) (w.alloc outZ) w1) := hide (by have := hb1; simpa [outZ] using this); clear hb1)
      | (go_at_call 24; refine (s_ill cd w1).mono ?_; rintro e w2 ⟨v2, rfl, ho2, hb2⟩; have HB2 : Hid (Below (w.heap.size + 1) (w.alloc outZ) w2) := hide (HB1.out.trans (hb2.mono (by have := HB1.out.size; simp at this; exact this))); have HO2 := hide ho2; obtain ⟨pa, pc, rfl⟩ := owns_shape ho2; obtain ⟨⟨e0, e1, e2, e3, e4, e5⟩, ez, -⟩ := out_cells HB2.out; have z0 := ez 0; have z1 := ez 1; have z2 := ez 2; have z3 := ez 3; have z4 := ez 4; have z5 := ez 5; clear hb2 ez ho2; unfold netV noMsg))
    obtain ⟨W4, hW4⟩ : ∃ W4, W4 = ((((((w2.setCell ⟨w.heap.size, 0, none⟩ (.slice pa 0 pc)).setCell ⟨w.heap.size, 1, none⟩ (.string ByteArray.empty)).setCell ⟨w.heap.size, 2, none⟩ (.string ByteArray.empty)).setCell ⟨w.heap.size, 3, none⟩ (.string ByteArray.empty)).setCell ⟨w.heap.size, 4, none⟩ (.int .i64 0)).setCell ⟨w.heap.size, 5, none⟩ (.int .i64 cd)) := ⟨_, rfl⟩
    rw [← hW4]
    have hE := ans_end (m := noMsg) (c := cd) HB2.out (show w.heap.size < w1.heap.size by have := HB1.out.size; simp at this; omega) HO2.out hW4
    obtain ⟨⟨r0, r1, r2, r3, r4, r5⟩, hE1, hE2⟩ := hE
    clear hW4 e0 e1 e2 e3 e4 e5 z0 z1 z2 z3 z4 z5
    refine bodyPost_ret_by (v := netV (.slice pa 0 pc) noMsg cd) ?_ rfl ⟨_, rfl, hE1, hE2⟩
    unfold netV noMsg
    unfold noMsg at r1 r2 r3 r4
    simp only [List.length_nil] at r0 r1 r2 r3 r4
    unfold results
    go_simp
end Go.Proofs.YtonafcifolddjaaDoor
