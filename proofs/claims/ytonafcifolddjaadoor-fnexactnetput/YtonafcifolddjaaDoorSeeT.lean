/- NetSee of the specification: the whole. -/
import Derived.Test.YtonafcifolddjaaDoorSeeS
namespace Go.Proofs.YtonafcifolddjaaDoor
open Go.RowKit
attribute [local go_sem ↓] Go.wp_at_zero Go.wp_at_succ

theorem msgs_len (l : List RMsg) : (l.flatMap RMsg.cells).length = l.length * 4 := by
  induction l with
  | nil => rfl
  | cons x l ih => rw [List.flatMap_cons, List.length_append, ih, List.length_cons, RMsg.cells_len]; omega
theorem msgs_cell {w : World} {b : Nat} : ∀ {l : List RMsg} {o : Nat}, RMsgs w b o l → ∀ j u, (l.flatMap RMsg.cells)[j]? = some u → w.cell? ((⟨b, o, none⟩ : Addr).add j) = some u
  | [], _, _, _, _, hj => by simp at hj
  | x :: l, o, h, j, u, hj => by
    have ea : ∀ (o j : Nat), (⟨b, o, none⟩ : Addr).add j = ⟨b, o + j, none⟩ := fun o j => by unfold Addr.add; split <;> simp_all
    rw [ea]
    rw [List.flatMap_cons] at hj
    by_cases h4 : j < 4
    · rw [List.getElem?_append_left (by rw [RMsg.cells_len]; exact h4)] at hj
      obtain ⟨⟨c0, c1, c2, c3⟩, -⟩ := h
      rcases j with _ | _ | _ | _ | j
      · simp [RMsg.cells] at hj; subst hj; exact c0
      · simp [RMsg.cells] at hj; subst hj; exact c1
      · simp [RMsg.cells] at hj; subst hj; exact c2
      · simp [RMsg.cells] at hj; subst hj; exact c3
      · omega
    · rw [List.getElem?_append_right (by rw [RMsg.cells_len]; omega), RMsg.cells_len] at hj
      have := msgs_cell h.2 (j - 4) u hj
      rw [ea] at this
      rwa [show o + 4 + (j - 4) = o + j by omega] at this
theorem msgs_one (l : List RMsg) : ∀ u ∈ l.flatMap RMsg.cells, u.oneCell' = true := by
  intro u hu
  obtain ⟨x, _, hx⟩ := List.mem_flatMap.1 hu
  exact RMsg.cells_one x u hx
/-- an empty list that is made -/
theorem own_empty (w : World) : (w.alloc (.cells #[] 28)).ownsRow w.heap.size 28 4 (.slice (some ⟨w.heap.size, 0, none⟩) 0 0) 0 [] :=
  ⟨rfl, .inr ⟨w.heap.size, 0, #[], rfl, Nat.le_refl _, mheap_new _ _ _ rfl, Nat.le_refl _, Nat.zero_le _, rfl, rfl⟩⟩
theorem own_grown {w w1 w2 : World} {o : Obj} {n c : Nat} (h : Below (w.heap.size + 1) (w.alloc outZ) w1) (hg : (w1.alloc o).grownBy w2 (Value.slice (some ⟨w1.heap.size, 0, none⟩) n c).ownBlock) : Below (w.heap.size + 1) (w.alloc outZ) w2 := by
  have h1 : Apart w1 w2 ([] ++ vblocks (.slice (some ⟨w1.heap.size, 0, none⟩) n c)) := (below_apart (malloc1 w1 o)).trans (grownBy_apart hg)
  have hs : w.heap.size + 1 ≤ w1.heap.size := by have := h.size; simp at this; exact this
  exact h.trans ((h1.below (Nat.le_refl _) (by simp [vblocks, cellBlocks])).mono hs)
set_option maxRecDepth 100000 in
theorem s_ill (c : Int) (w : World) : Calls Tryd.prog 24 #[.int .i64 c] w fun e w' => NetAns w w' e [] noMsg c := by
  have HI := hide Tryd.infoOut
  go_enter Tryd.func24, Tryd.ntmps24
  go_wp2_with fail
  refine bodyPost_ret_by (results_cell_row rfl _ _ w.heap.size 30 #[.slice none 0 0, .string ByteArray.empty, .string ByteArray.empty, .string ByteArray.empty, .int .i64 0, .int .i64 c] (0, 0) _ rfl ?_ Tryd.underlying30 rfl HI.out) rfl ⟨_, rfl, RMsgOwn.nil _ _, malloc1 _ _⟩
  rw [mheap_new _ _ _ rfl]
  rfl
set_option maxRecDepth 100000 in
set_option maxHeartbeats 1000000 in
theorem s_see (f t : ByteArray) (l : List RMsg) (v : Value) (w : World) (hf : f.size ≤ maxLen) (ht : t.size ≤ maxLen) (hok : ∀ m ∈ l, m.ok) (hv : RMsgSl w w.heap.size v l) :
    Calls Tryd.prog 18 #[v, .string f, .string t] w fun e w' => NetAns w w' e (pickL false l f t) (pickM l f t) (findW l f t).code := by
  have HOK := hide hok
  have HV := hide hv
  have HF := hide hf
  have HT := hide ht
  obtain ⟨ao, cap, rfl, hc, hm, hr⟩ := hv
  have HR := hide hr
  obtain ⟨i0, hi, hz0, hz1, hz2⟩ := info_parts Tryd.infoRMsg
  have HI := hide (And.intro hi (And.intro hz0 (And.intro hz1 hz2)))
  clear hr hok hi hz0 hz1 hz2
  obtain ⟨y, hy⟩ : ∃ y, findW l f t = y := ⟨_, rfl⟩
  have HY := hide hy
  by_cases hyf : y = .normal
  · subst hyf
    obtain ⟨k, hk, hkl, hkn, hnet⟩ := find_fine hy
    obtain ⟨p1, p2⟩ := pick_yes false hy hk
    rw [p1, p2, hy]
    have h36 := net_len hnet
    obtain ⟨b, o, rfl, hbB, hrow⟩ := HR.out (by intro h; simp [h] at hkl)
    have hnode := hrow.get k hkl
    have HRW : Hid (∀ W, Below w.heap.size w W → RMsgs W b o l) := hide (fun W hb => hrow.carry hbB hb)
    have HND : Hid (∀ W, Below w.heap.size w W → RMsgAt W b (o + k * 4) l[k]) := hide (fun W hb => hnode.carry hbB hb)
    have HX : Hid (l.getD k noMsg = l[k]) := hide (by rw [List.getD_eq_getElem?_getD, List.getElem?_eq_getElem hkl]; rfl)
    have HAT : Hid (atG 0 f t l = (k : Int)) := hide (by rw [atG_zero, atN, hk])
    rw [HX.out]
    obtain ⟨x1, hx1⟩ : ∃ x1, x1 = l[k] := ⟨_, rfl⟩
    rw [← hx1] at HND ⊢
    clear hx1 hnode hrow hnet p1 p2 hk HX hkn hy
    go_enter Tryd.func18, Tryd.ntmps18
    go_wp2_with (first
      | (go_at_call 35; refine (s_begin (c := 0) (by rw [HY.out]; rfl) _ _ HF.out HT.out HOK.out ((HV.out.carry (malloc1 _ _)).up (malloc1 _ _).size)).mono ?_; rintro e w1 ⟨rfl, hb1⟩; have HB1 : Hid (Below (w.heap.size + 1) (w.alloc outZ) w1) := hide (by have := hb1; simpa [outZ] using this); have HBW := hide (out_cells HB1.out).2.2; clear hb1)
      | (at_builtin; refine wpList_append_own _ rfl (.tmp 16) (.tmp 17) 27 rfl w1.heap.size 28 i0 (.agg #[.string ByteArray.empty, .string ByteArray.empty, .string ByteArray.empty, .int .i64 0]) 4 56 Tryd.underlying27 HI.out.1 HI.out.2.1 HI.out.2.2.1 HI.out.2.2.2 rfl (by decide) (.slice (some ⟨w1.heap.size, 0, none⟩) 0 0) 0 [] rfl (own_empty w1) ⟨b, o, none⟩ l.length cap (l.flatMap RMsg.cells) rfl (msgs_len l) (fun j u hj => msgs_cell (HRW.out _ (HBW.out.trans ((malloc1 _ _).mono HBW.out.size))) j u hj) (msgs_one l) (by unfold maxLen; omega) (by omega) (by simp) ?_; intro v2 w2 hown2 hgr2 _; have HB2 : Hid (Below (w.heap.size + 1) (w.alloc outZ) w2) := hide (own_grown HB1.out hgr2); have HO2 : Hid (RMsgOwn w2 w1.heap.size v2 l) := hide (by have := hown2; simpa [RMsgOwn] using this); obtain ⟨pa, pc, rfl⟩ := owns_shape HO2.out; have HBW2 := hide (out_cells HB2.out).2.2; clear hown2 hgr2)
      | (go_at_call 36; refine (s_at (s := 0) HAT.out _ _ (by omega) (Nat.zero_le _) ((HV.out.carry HBW2.out).up HBW2.out.size)).mono ?_; rintro e w3 ⟨rfl, hb3⟩; have HB3 : Hid (Below (w.heap.size + 1) (w.alloc outZ) w3) := hide (HB2.out.trans (hb3.mono (by have := HB2.out.size; simp at this; exact this))); have HO3 := hide (HO2.out.below hb3); obtain ⟨⟨e0, e1, e2, e3, e4, e5⟩, ez, hbw3⟩ := out_cells HB3.out; have z0 := ez 0; have z1 := ez 1; have z2 := ez 2; have z3 := ez 3; have z4 := ez 4; have z5 := ez 5; obtain ⟨d0, d1, d2, d3⟩ := HND.out _ hbw3; clear hb3 ez hbw3))
    obtain ⟨W4, hW4⟩ : ∃ W4, W4 = ((((((w3.setCell ⟨w.heap.size, 0, none⟩ (.slice pa l.length pc)).setCell ⟨w.heap.size, 1, none⟩ (.string x1.frm)).setCell ⟨w.heap.size, 2, none⟩ (.string x1.to)).setCell ⟨w.heap.size, 3, none⟩ (.string x1.label)).setCell ⟨w.heap.size, 4, none⟩ (.int .i64 x1.sort)).setCell ⟨w.heap.size, 5, none⟩ (.int .i64 0)) := ⟨_, rfl⟩
    rw [← hW4]
    have hE := ans_end (m := x1) (c := 0) HB3.out (show w.heap.size < w1.heap.size by have := HB1.out.size; simp at this; omega) HO3.out hW4
    obtain ⟨⟨r0, r1, r2, r3, r4, r5⟩, hE1, hE2⟩ := hE
    clear hW4 e0 e1 e2 e3 e4 e5 z0 z1 z2 z3 z4 z5 d0 d1 d2 d3
    refine bodyPost_ret_by (v := netV (.slice pa l.length pc) x1 0) ?_ rfl ⟨_, rfl, hE1, hE2⟩
    unfold netV
    unfold results
    go_simp
  · obtain ⟨p1, p2⟩ := pick_no false (show findW l f t ≠ .normal by rw [hy]; exact hyf)
    rw [p1, p2, hy]
    obtain ⟨cd, hcd⟩ : ∃ cd, y.code = cd := ⟨_, rfl⟩
    have HCD : Hid ((findW l f t).code = cd) := hide (by rw [hy]; exact hcd)
    rw [hcd]
    have hcn : ¬ cd = 0 := by rw [← hcd]; cases y <;> first | exact absurd rfl hyf | decide
    clear p1 p2 hcd hy hyf
    go_enter Tryd.func18, Tryd.ntmps18
    go_wp2_with (first
      | (go_at_call 35; refine (s_begin HCD.out _ _ HF.out HT.out HOK.out ((HV.out.carry (malloc1 _ _)).up (malloc1 _ _).size)).mono ?_; rintro e w1 ⟨rfl, hb1⟩; have HB1 : Hid (Below (w.heap.size + 1) (w.alloc outZ) w1) := hide (by have := hb1; simpa [outZ] using this); clear hb1)
      | (go_at_call 24; refine (s_ill cd w1).mono ?_; rintro e w2 ⟨v2, rfl, ho2, hb2⟩; have HB2 : Hid (Below (w.heap.size + 1) (w.alloc outZ) w2) := hide (HB1.out.trans (hb2.mono (by have := HB1.out.size; simp at this; exact this))); have HO2 := hide ho2; obtain ⟨pa, pc, rfl⟩ := owns_shape ho2; obtain ⟨⟨e0, e1, e2, e3, e4, e5⟩, ez, -⟩ := out_cells HB2.out; have z0 := ez 0; have z1 := ez 1; have z2 := ez 2; have z3 := ez 3; have z4 := ez 4; have z5 := ez 5; clear hb2 ez ho2; unfold netV noMsg))
    obtain ⟨W4, hW4⟩ : ∃ W4, W4 = ((((((w2.setCell ⟨w.heap.size, 0, none⟩ (.slice pa 0 pc)).setCell ⟨w.heap.size, 1, none⟩ (.string ByteArray.empty)).setCell ⟨w.heap.size, 2, none⟩ (.string ByteArray.empty)).setCell ⟨w.heap.size, 3, none⟩ (.string ByteArray.empty)).setCell ⟨w.heap.size, 4, none⟩ (.int .i64 0)).setCell ⟨w.heap.size, 5, none⟩ (.int .i64 cd)) := ⟨_, rfl⟩
    rw [← hW4]
    have hE := ans_end (m := noMsg) (c := cd) HB2.out (show w.heap.size < w1.heap.size by have := HB1.out.size; simp at this; omega) HO2.out hW4
    obtain ⟨⟨r0, r1, r2, r3, r4, r5⟩, hE1, hE2⟩ := hE
    clear hW4 e0 e1 e2 e3 e4 e5 z0 z1 z2 z3 z4 z5
    refine bodyPost_ret_by (v := netV (.slice pa 0 pc) noMsg cd) ?_ rfl ⟨_, rfl, hE1, hE2⟩
    unfold netV noMsg
    unfold noMsg at r1 r2 r3 r4
    simp only [List.length_nil] at r0 r1 r2 r3 r4
    unfold results
    go_simp
end Go.Proofs.YtonafcifolddjaaDoor
