/- NetPut of the specification. -/
import Derived.Test.YtonafcifolddjaaGreatDoorQB29
namespace Go.Proofs.YtonafcifolddjaaGreatDoor
open Go.RowKit
attribute [local go_sem ↓] Go.wp_at_zero Go.wp_at_succ

/-- an empty list that was made: one's own -/
theorem own_empty_at {W : World} {g base : Nat} (hg : W.heap[g]? = some (.cells #[] 25 (0, 0))) (hb : base ≤ g) : W.ownsRow base 25 4 (.slice (some ⟨g, 0, none⟩) 0 0) 0 [] :=
  ⟨rfl, .inr ⟨g, 0, #[], rfl, hb, hg, Nat.le_refl _, Nat.zero_le _, rfl, rfl⟩⟩
theorem grown_cells {W w1 : World} {g h : Nat} {l : List Value} (hgr : W.grownBy w1 (Value.slice (some ⟨g, 0, none⟩) 0 0).ownBlock) (hne : h ≠ g) (hc : ∀ j u, l[j]? = some u → W.cell? ((⟨h, 0, none⟩ : Addr).add j) = some u) : ∀ j u, l[j]? = some u → w1.cell? ((⟨h, 0, none⟩ : Addr).add j) = some u := fun j u hj => by
  have h1 := hc j u hj
  have ea : (⟨h, 0, none⟩ : Addr).add j = ⟨h, 0 + j, none⟩ := by unfold Addr.add; split <;> simp_all
  rw [ea] at h1 ⊢
  exact (grownBy_apart hgr).cellN h1 (by simp [vblocks, cellBlocks]; exact hne)
set_option maxRecDepth 100000 in
set_option maxHeartbeats 1000000 in
theorem s_l05put {y : Why} (l : List RMsg) (m : RMsg) (b o cap : Nat) (w : World) (hy : insW l l.length m = y) (h4 : l.length ≤ 4096) (hok : ∀ x ∈ l, x.ok) (hm : m.ok) (hv : RMsgSl w w.heap.size (.slice (some ⟨b, o, none⟩) l.length cap) l) :
    Calls Tryz.prog 53 #[.slice (some ⟨b, o, none⟩) l.length cap, m.val] w fun e w' => NetAns w w' e (if netB (insL l l.length m) then insL l l.length m else []) noMsg y.code := by
  have HOK : Hid (∀ x ∈ insL l l.length m, x.ok) := hide (fun x hx => by rcases insL_mem hx with h | rfl; exact hok x h; exact hm)
  have HV := hide hv
  obtain ⟨i0, hi, hz0, hz1, hz2⟩ := info_parts Tryz.infoRMsg
  have HI := hide (And.intro hi (And.intro hz0 (And.intro hz1 hz2)))
  have HROW : Hid (∀ W, Below w.heap.size w W → RMsgs W b o l) := hide (fun W hb => by
    obtain ⟨a1, c1, e1, h1, h2, h3⟩ := HV.out
    by_cases hn : l = []
    · rw [hn]; trivial
    · obtain ⟨b1, o1, e2, h4, h5⟩ := h3 hn
      injection e1 with e1
      rw [← e1] at e2
      injection e2 with e2
      injection e2 with e2 e3
      subst e2 e3
      exact h5.carry h4 hb)
  have HIN : Hid (l.flatMap RMsg.cells ++ m.cells = (insL l l.length m).flatMap RMsg.cells ∧ (insL l l.length m).length = l.length + 1) := hide ⟨by rw [insL_all, List.flatMap_append]; simp, insL_len m (Nat.le_refl _)⟩
  obtain ⟨q, hq⟩ : ∃ q, netB (insL l l.length m) = q := ⟨_, rfl⟩
  have HQ := hide hq
  rw [hq]
  have HYC : Hid (y.code = if q then 0 else 9) := hide (by rw [← hy, insW, hq]; cases q <;> rfl)
  clear hok hm hi hz0 hz1 hz2 hv hq hy
  unfold RMsg.val
  have B1 : Hid (Below (w.heap.size + 2) ((w.alloc (.cells #[.string m.frm, .string m.to, .string m.label, .int .i64 m.sort] 25)).alloc outZ) (((w.alloc (.cells #[.string m.frm, .string m.to, .string m.label, .int .i64 m.sort] 25)).alloc outZ).drew.alloc (.cells #[] 25)) ∧ (((w.alloc (.cells #[.string m.frm, .string m.to, .string m.label, .int .i64 m.sort] 25)).alloc outZ).drew.alloc (.cells #[] 25)).heap[w.heap.size + 2]? = some (.cells #[] 25 (0, 0))) := hide ⟨((Below.refl _ _).drew).alloc (by simp) _, mheap_new _ _ _ (by simp)⟩
  have B2 : Hid (Below (w.heap.size + 2) ((w.alloc (.cells #[.string m.frm, .string m.to, .string m.label, .int .i64 m.sort] 25)).alloc outZ) ((((w.alloc (.cells #[.string m.frm, .string m.to, .string m.label, .int .i64 m.sort] 25)).alloc outZ).drew.alloc (.cells #[] 25)).alloc (.cells #[.string m.frm, .string m.to, .string m.label, .int .i64 m.sort] 25)) ∧ ((((w.alloc (.cells #[.string m.frm, .string m.to, .string m.label, .int .i64 m.sort] 25)).alloc outZ).drew.alloc (.cells #[] 25)).alloc (.cells #[.string m.frm, .string m.to, .string m.label, .int .i64 m.sort] 25)).heap[w.heap.size + 2]? = some (.cells #[] 25 (0, 0)) ∧ ∀ j u, m.cells[j]? = some u → ((((w.alloc (.cells #[.string m.frm, .string m.to, .string m.label, .int .i64 m.sort] 25)).alloc outZ).drew.alloc (.cells #[] 25)).alloc (.cells #[.string m.frm, .string m.to, .string m.label, .int .i64 m.sort] 25)).cell? ((⟨w.heap.size + 3, 0, none⟩ : Addr).add j) = some u) := hide ⟨(((Below.refl _ _).drew).alloc (by simp) _).alloc (by simp) _, (mheap_old _ _ _ (by simp)).trans (mheap_new _ _ _ (by simp)), fun j u hj => by
    have := new_row1 (((w.alloc (.cells #[.string m.frm, .string m.to, .string m.label, .int .i64 m.sort] 25)).alloc outZ).drew.alloc (.cells #[] 25)) m.cells 25 j u hj
    have e : (((w.alloc (.cells #[.string m.frm, .string m.to, .string m.label, .int .i64 m.sort] 25)).alloc outZ).drew.alloc (.cells #[] 25)).heap.size = w.heap.size + 3 := by simp
    rw [e] at this
    exact this⟩
  have B3 : Hid (Below (w.heap.size + 2) ((w.alloc (.cells #[.string m.frm, .string m.to, .string m.label, .int .i64 m.sort] 25)).alloc outZ) ((((w.alloc (.cells #[.string m.frm, .string m.to, .string m.label, .int .i64 m.sort] 25)).alloc outZ).drew.alloc (.cells #[.string m.frm, .string m.to, .string m.label, .int .i64 m.sort] 25)).alloc (.cells #[] 25)) ∧ ((((w.alloc (.cells #[.string m.frm, .string m.to, .string m.label, .int .i64 m.sort] 25)).alloc outZ).drew.alloc (.cells #[.string m.frm, .string m.to, .string m.label, .int .i64 m.sort] 25)).alloc (.cells #[] 25)).heap[w.heap.size + 3]? = some (.cells #[] 25 (0, 0)) ∧ ∀ j u, m.cells[j]? = some u → ((((w.alloc (.cells #[.string m.frm, .string m.to, .string m.label, .int .i64 m.sort] 25)).alloc outZ).drew.alloc (.cells #[.string m.frm, .string m.to, .string m.label, .int .i64 m.sort] 25)).alloc (.cells #[] 25)).cell? ((⟨w.heap.size + 2, 0, none⟩ : Addr).add j) = some u) := hide ⟨(((Below.refl _ _).drew).alloc (by simp) _).alloc (by simp) _, mheap_new _ _ _ (by simp), fun j u hj => by
    have := new_row1 ((w.alloc (.cells #[.string m.frm, .string m.to, .string m.label, .int .i64 m.sort] 25)).alloc outZ).drew m.cells 25 j u hj
    have e : ((w.alloc (.cells #[.string m.frm, .string m.to, .string m.label, .int .i64 m.sort] 25)).alloc outZ).drew.heap.size = w.heap.size + 2 := by simp
    rw [e] at this
    have ea : (⟨w.heap.size + 2, 0, none⟩ : Addr).add j = ⟨w.heap.size + 2, 0 + j, none⟩ := by unfold Addr.add; split <;> simp_all
    rw [ea] at this ⊢
    exact (((malloc1 _ _)).cell (p := ⟨w.heap.size + 2, 0 + j, none⟩) (by simp)).trans this⟩
  cases q
  · rw [HYC.out, if_neg (by simp), if_neg (by simp)]
    go_enter Tryz.func53, Tryz.ntmps53
    go_wp2_with fail
    try change Code.wp _ _ _ _ ((w.alloc (.cells #[.string m.frm, .string m.to, .string m.label, .int .i64 m.sort] 25)).alloc outZ)
    go_region_law (first
      | (refine stepM_own rfl (.tmp 8) (.tmp 10) 23 rfl (w.heap.size + 2) 25 i0 (.agg #[.string ByteArray.empty, .string ByteArray.empty, .string ByteArray.empty, .int .i64 0]) 4 56 Tryz.underlying23 HI.out.1 HI.out.2.1 HI.out.2.2.1 HI.out.2.2.2 rfl (by decide) (.slice p1 l.length c1) l.length (l.flatMap RMsg.cells) rfl HO1.out ⟨w.heap.size + 3, 0, none⟩ 1 1 m.cells rfl rfl HMB.out (RMsg.cells_one m) (by unfold maxLen; omega) (by omega) (put_size HB1.out) ?_; intro v2 w2 hown2 hgr2; have HO2 : Hid (RMsgOwn w2 (w.heap.size + 2) v2 (insL l l.length m)) := hide (by unfold RMsgOwn; rw [HIN.out.2, ← HIN.out.1]; exact hown2); have HB2 : Hid (Below (w.heap.size + 2) ((w.alloc (.cells #[.string m.frm, .string m.to, .string m.label, .int .i64 m.sort] 25)).alloc outZ) w2) := hide ((HB1.out).trans ((grownBy_apart hgr2).below (put_size HB1.out) (fun q hq => (owns_fresh HO1.out).lo q hq))); obtain ⟨p2, c2, rfl⟩ := owns_shape HO2.out; clear hown2 hgr2)
      | (refine stepM_own rfl (.tmp 8) (.tmp 10) 23 rfl (w.heap.size + 2) 25 i0 (.agg #[.string ByteArray.empty, .string ByteArray.empty, .string ByteArray.empty, .int .i64 0]) 4 56 Tryz.underlying23 HI.out.1 HI.out.2.1 HI.out.2.2.1 HI.out.2.2.2 rfl (by decide) (.slice p1 l.length c1) l.length (l.flatMap RMsg.cells) rfl HO1.out ⟨w.heap.size + 2, 0, none⟩ 1 1 m.cells rfl rfl HMC.out (RMsg.cells_one m) (by unfold maxLen; omega) (by omega) (put_size HB1.out) ?_; intro v2 w2 hown2 hgr2; have HO2 : Hid (RMsgOwn w2 (w.heap.size + 2) v2 (insL l l.length m)) := hide (by unfold RMsgOwn; rw [HIN.out.2, ← HIN.out.1]; exact hown2); have HB2 : Hid (Below (w.heap.size + 2) ((w.alloc (.cells #[.string m.frm, .string m.to, .string m.label, .int .i64 m.sort] 25)).alloc outZ) w2) := hide ((HB1.out).trans ((grownBy_apart hgr2).below (put_size HB1.out) (fun q hq => (owns_fresh HO1.out).lo q hq))); obtain ⟨p2, c2, rfl⟩ := owns_shape HO2.out; clear hown2 hgr2)
      | (refine stepM_own rfl (.tmp 8) (.tmp 10) 23 rfl (w.heap.size + 2) 25 i0 (.agg #[.string ByteArray.empty, .string ByteArray.empty, .string ByteArray.empty, .int .i64 0]) 4 56 Tryz.underlying23 HI.out.1 HI.out.2.1 HI.out.2.2.1 HI.out.2.2.2 rfl (by decide) (.slice p1 l.length c1) l.length (l.flatMap RMsg.cells) rfl (owns_below HO1.out (malloc1 _ _)) ⟨w1.heap.size, 0, none⟩ 1 1 m.cells rfl rfl (fun j u hj => new_row1 _ _ _ j u hj) (RMsg.cells_one m) (by unfold maxLen; omega) (by omega) (put_size (put_next HB1.out (malloc1 _ (.cells #[.string m.frm, .string m.to, .string m.label, .int .i64 m.sort] 25)))) ?_; intro v2 w2 hown2 hgr2; have HO2 : Hid (RMsgOwn w2 (w.heap.size + 2) v2 (insL l l.length m)) := hide (by unfold RMsgOwn; rw [HIN.out.2, ← HIN.out.1]; exact hown2); have HB2 : Hid (Below (w.heap.size + 2) ((w.alloc (.cells #[.string m.frm, .string m.to, .string m.label, .int .i64 m.sort] 25)).alloc outZ) w2) := hide (((put_next HB1.out (malloc1 _ (.cells #[.string m.frm, .string m.to, .string m.label, .int .i64 m.sort] 25)))).trans ((grownBy_apart hgr2).below (put_size (put_next HB1.out (malloc1 _ (.cells #[.string m.frm, .string m.to, .string m.label, .int .i64 m.sort] 25)))) (fun q hq => (owns_fresh HO1.out).lo q hq))); obtain ⟨p2, c2, rfl⟩ := owns_shape HO2.out; clear hown2 hgr2)
      | (refine stepM_own rfl (.tmp 6) (.tmp 7) 23 rfl (w.heap.size + 2) 25 i0 (.agg #[.string ByteArray.empty, .string ByteArray.empty, .string ByteArray.empty, .int .i64 0]) 4 56 Tryz.underlying23 HI.out.1 HI.out.2.1 HI.out.2.2.1 HI.out.2.2.2 rfl (by decide) (.slice (some ⟨w.heap.size + 2, 0, none⟩) 0 0) 0 [] rfl (own_empty_at B1.out.2 (by omega)) ⟨b, o, none⟩ l.length cap (l.flatMap RMsg.cells) rfl (msgs_len l) (fun j u hj => msgs_cell (HROW.out _ (put_base B1.out.1).b) j u hj) (msgs_one l) (by unfold maxLen; omega) (by omega) (put_size B1.out.1) ?_; intro v1 w1 hown1 hgr1; have HO1 : Hid (w1.ownsRow (w.heap.size + 2) 25 4 v1 l.length (l.flatMap RMsg.cells)) := hide (by have := hown1; simpa using this); have HB1 : Hid (Below (w.heap.size + 2) ((w.alloc (.cells #[.string m.frm, .string m.to, .string m.label, .int .i64 m.sort] 25)).alloc outZ) w1) := hide (B1.out.1.trans ((grownBy_apart hgr1).below (put_size B1.out.1) (by simp [vblocks, cellBlocks]))); obtain ⟨p1, c1, rfl⟩ := owns_shape HO1.out; obtain ⟨d0, d1, d2, d3⟩ := (put_base HB1.out).c; simp only [Nat.zero_add] at d0 d1 d2 d3; clear hown1 hgr1)
      | (refine stepM_own rfl (.tmp 6) (.tmp 7) 23 rfl (w.heap.size + 2) 25 i0 (.agg #[.string ByteArray.empty, .string ByteArray.empty, .string ByteArray.empty, .int .i64 0]) 4 56 Tryz.underlying23 HI.out.1 HI.out.2.1 HI.out.2.2.1 HI.out.2.2.2 rfl (by decide) (.slice (some ⟨w.heap.size + 2, 0, none⟩) 0 0) 0 [] rfl (own_empty_at B2.out.2.1 (by omega)) ⟨b, o, none⟩ l.length cap (l.flatMap RMsg.cells) rfl (msgs_len l) (fun j u hj => msgs_cell (HROW.out _ (put_base B2.out.1).b) j u hj) (msgs_one l) (by unfold maxLen; omega) (by omega) (put_size B2.out.1) ?_; intro v1 w1 hown1 hgr1; have HO1 : Hid (w1.ownsRow (w.heap.size + 2) 25 4 v1 l.length (l.flatMap RMsg.cells)) := hide (by have := hown1; simpa using this); have HB1 : Hid (Below (w.heap.size + 2) ((w.alloc (.cells #[.string m.frm, .string m.to, .string m.label, .int .i64 m.sort] 25)).alloc outZ) w1) := hide (B2.out.1.trans ((grownBy_apart hgr1).below (put_size B2.out.1) (by simp [vblocks, cellBlocks]))); have HMB := hide (grown_cells hgr1 (by omega) B2.out.2.2); obtain ⟨p1, c1, rfl⟩ := owns_shape HO1.out; obtain ⟨d0, d1, d2, d3⟩ := (put_base HB1.out).c; simp only [Nat.zero_add] at d0 d1 d2 d3; clear hown1 hgr1)
      | (refine stepM_own rfl (.tmp 6) (.tmp 7) 23 rfl (w.heap.size + 2) 25 i0 (.agg #[.string ByteArray.empty, .string ByteArray.empty, .string ByteArray.empty, .int .i64 0]) 4 56 Tryz.underlying23 HI.out.1 HI.out.2.1 HI.out.2.2.1 HI.out.2.2.2 rfl (by decide) (.slice (some ⟨w.heap.size + 3, 0, none⟩) 0 0) 0 [] rfl (own_empty_at B3.out.2.1 (by omega)) ⟨b, o, none⟩ l.length cap (l.flatMap RMsg.cells) rfl (msgs_len l) (fun j u hj => msgs_cell (HROW.out _ (put_base B3.out.1).b) j u hj) (msgs_one l) (by unfold maxLen; omega) (by omega) (put_size B3.out.1) ?_; intro v1 w1 hown1 hgr1; have HO1 : Hid (w1.ownsRow (w.heap.size + 2) 25 4 v1 l.length (l.flatMap RMsg.cells)) := hide (by have := hown1; simpa using this); have HB1 : Hid (Below (w.heap.size + 2) ((w.alloc (.cells #[.string m.frm, .string m.to, .string m.label, .int .i64 m.sort] 25)).alloc outZ) w1) := hide (B3.out.1.trans ((grownBy_apart hgr1).below (put_size B3.out.1) (by simp [vblocks, cellBlocks]))); have HMC := hide (grown_cells hgr1 (by omega) B3.out.2.2); obtain ⟨p1, c1, rfl⟩ := owns_shape HO1.out; obtain ⟨d0, d1, d2, d3⟩ := (put_base HB1.out).c; simp only [Nat.zero_add] at d0 d1 d2 d3; clear hown1 hgr1))
    all_goals
      have HS2 := hide (HO2.out.sl (by rw [HIN.out.2]; omega))
      go_wp2_with (first
        | (go_at_call 23; refine (s_net HQ.out _ _ HOK.out HS2.out).mono ?_; rintro e w3 ⟨rfl, hb3⟩; have HB3 := hide (put_next HB2.out hb3); clear hb3)
        | (go_at_call 52; refine (s_ill 9 w3).mono ?_; rintro e w4 ⟨v4, rfl, ho4, hb4⟩; have HBL := hide (put_next HB3.out hb4); have HOL := hide ho4; obtain ⟨pa, pc, rfl⟩ := owns_shape ho4; obtain ⟨⟨x0, x1, x2, x3, x4, x5⟩, ez, -, -⟩ := put_base HBL.out; have z0 := ez 0; have z1 := ez 1; have z2 := ez 2; have z3 := ez 3; have z4 := ez 4; have z5 := ez 5; clear hb4 ez ho4; unfold netV noMsg))
      obtain ⟨W5, hW5⟩ : ∃ W5, W5 = ((((((w4.setCell ⟨w.heap.size + 1, 0, none⟩ (.slice pa 0 pc)).setCell ⟨w.heap.size + 1, 1, none⟩ (.string ByteArray.empty)).setCell ⟨w.heap.size + 1, 2, none⟩ (.string ByteArray.empty)).setCell ⟨w.heap.size + 1, 3, none⟩ (.string ByteArray.empty)).setCell ⟨w.heap.size + 1, 4, none⟩ (.int .i64 0)).setCell ⟨w.heap.size + 1, 5, none⟩ (.int .i64 9)) := ⟨_, rfl⟩
      rw [← hW5]
      have hE := put_end (M := noMsg) (c := 9) HBL.out (put_size HB3.out) HOL.out hW5
      obtain ⟨⟨r0, r1, r2, r3, r4, r5⟩, hE1, hE2⟩ := hE
      clear hW5 x0 x1 x2 x3 x4 x5 z0 z1 z2 z3 z4 z5
      refine bodyPost_ret_by (v := netV (.slice pa 0 pc) noMsg 9) ?_ rfl ⟨_, rfl, hE1, hE2⟩
      unfold netV noMsg
      unfold noMsg at r1 r2 r3 r4
      simp only [List.length_nil] at r0 r1 r2 r3 r4
      unfold results
      go_simp
  · rw [HYC.out, if_pos rfl, if_pos rfl]
    go_enter Tryz.func53, Tryz.ntmps53
    go_wp2_with fail
    try change Code.wp _ _ _ _ ((w.alloc (.cells #[.string m.frm, .string m.to, .string m.label, .int .i64 m.sort] 25)).alloc outZ)
    go_region_law (first
      | (refine stepM_own rfl (.tmp 8) (.tmp 10) 23 rfl (w.heap.size + 2) 25 i0 (.agg #[.string ByteArray.empty, .string ByteArray.empty, .string ByteArray.empty, .int .i64 0]) 4 56 Tryz.underlying23 HI.out.1 HI.out.2.1 HI.out.2.2.1 HI.out.2.2.2 rfl (by decide) (.slice p1 l.length c1) l.length (l.flatMap RMsg.cells) rfl HO1.out ⟨w.heap.size + 3, 0, none⟩ 1 1 m.cells rfl rfl HMB.out (RMsg.cells_one m) (by unfold maxLen; omega) (by omega) (put_size HB1.out) ?_; intro v2 w2 hown2 hgr2; have HO2 : Hid (RMsgOwn w2 (w.heap.size + 2) v2 (insL l l.length m)) := hide (by unfold RMsgOwn; rw [HIN.out.2, ← HIN.out.1]; exact hown2); have HB2 : Hid (Below (w.heap.size + 2) ((w.alloc (.cells #[.string m.frm, .string m.to, .string m.label, .int .i64 m.sort] 25)).alloc outZ) w2) := hide ((HB1.out).trans ((grownBy_apart hgr2).below (put_size HB1.out) (fun q hq => (owns_fresh HO1.out).lo q hq))); obtain ⟨p2, c2, rfl⟩ := owns_shape HO2.out; clear hown2 hgr2)
      | (refine stepM_own rfl (.tmp 8) (.tmp 10) 23 rfl (w.heap.size + 2) 25 i0 (.agg #[.string ByteArray.empty, .string ByteArray.empty, .string ByteArray.empty, .int .i64 0]) 4 56 Tryz.underlying23 HI.out.1 HI.out.2.1 HI.out.2.2.1 HI.out.2.2.2 rfl (by decide) (.slice p1 l.length c1) l.length (l.flatMap RMsg.cells) rfl HO1.out ⟨w.heap.size + 2, 0, none⟩ 1 1 m.cells rfl rfl HMC.out (RMsg.cells_one m) (by unfold maxLen; omega) (by omega) (put_size HB1.out) ?_; intro v2 w2 hown2 hgr2; have HO2 : Hid (RMsgOwn w2 (w.heap.size + 2) v2 (insL l l.length m)) := hide (by unfold RMsgOwn; rw [HIN.out.2, ← HIN.out.1]; exact hown2); have HB2 : Hid (Below (w.heap.size + 2) ((w.alloc (.cells #[.string m.frm, .string m.to, .string m.label, .int .i64 m.sort] 25)).alloc outZ) w2) := hide ((HB1.out).trans ((grownBy_apart hgr2).below (put_size HB1.out) (fun q hq => (owns_fresh HO1.out).lo q hq))); obtain ⟨p2, c2, rfl⟩ := owns_shape HO2.out; clear hown2 hgr2)
      | (refine stepM_own rfl (.tmp 8) (.tmp 10) 23 rfl (w.heap.size + 2) 25 i0 (.agg #[.string ByteArray.empty, .string ByteArray.empty, .string ByteArray.empty, .int .i64 0]) 4 56 Tryz.underlying23 HI.out.1 HI.out.2.1 HI.out.2.2.1 HI.out.2.2.2 rfl (by decide) (.slice p1 l.length c1) l.length (l.flatMap RMsg.cells) rfl (owns_below HO1.out (malloc1 _ _)) ⟨w1.heap.size, 0, none⟩ 1 1 m.cells rfl rfl (fun j u hj => new_row1 _ _ _ j u hj) (RMsg.cells_one m) (by unfold maxLen; omega) (by omega) (put_size (put_next HB1.out (malloc1 _ (.cells #[.string m.frm, .string m.to, .string m.label, .int .i64 m.sort] 25)))) ?_; intro v2 w2 hown2 hgr2; have HO2 : Hid (RMsgOwn w2 (w.heap.size + 2) v2 (insL l l.length m)) := hide (by unfold RMsgOwn; rw [HIN.out.2, ← HIN.out.1]; exact hown2); have HB2 : Hid (Below (w.heap.size + 2) ((w.alloc (.cells #[.string m.frm, .string m.to, .string m.label, .int .i64 m.sort] 25)).alloc outZ) w2) := hide (((put_next HB1.out (malloc1 _ (.cells #[.string m.frm, .string m.to, .string m.label, .int .i64 m.sort] 25)))).trans ((grownBy_apart hgr2).below (put_size (put_next HB1.out (malloc1 _ (.cells #[.string m.frm, .string m.to, .string m.label, .int .i64 m.sort] 25)))) (fun q hq => (owns_fresh HO1.out).lo q hq))); obtain ⟨p2, c2, rfl⟩ := owns_shape HO2.out; clear hown2 hgr2)
      | (refine stepM_own rfl (.tmp 6) (.tmp 7) 23 rfl (w.heap.size + 2) 25 i0 (.agg #[.string ByteArray.empty, .string ByteArray.empty, .string ByteArray.empty, .int .i64 0]) 4 56 Tryz.underlying23 HI.out.1 HI.out.2.1 HI.out.2.2.1 HI.out.2.2.2 rfl (by decide) (.slice (some ⟨w.heap.size + 2, 0, none⟩) 0 0) 0 [] rfl (own_empty_at B1.out.2 (by omega)) ⟨b, o, none⟩ l.length cap (l.flatMap RMsg.cells) rfl (msgs_len l) (fun j u hj => msgs_cell (HROW.out _ (put_base B1.out.1).b) j u hj) (msgs_one l) (by unfold maxLen; omega) (by omega) (put_size B1.out.1) ?_; intro v1 w1 hown1 hgr1; have HO1 : Hid (w1.ownsRow (w.heap.size + 2) 25 4 v1 l.length (l.flatMap RMsg.cells)) := hide (by have := hown1; simpa using this); have HB1 : Hid (Below (w.heap.size + 2) ((w.alloc (.cells #[.string m.frm, .string m.to, .string m.label, .int .i64 m.sort] 25)).alloc outZ) w1) := hide (B1.out.1.trans ((grownBy_apart hgr1).below (put_size B1.out.1) (by simp [vblocks, cellBlocks]))); obtain ⟨p1, c1, rfl⟩ := owns_shape HO1.out; obtain ⟨d0, d1, d2, d3⟩ := (put_base HB1.out).c; simp only [Nat.zero_add] at d0 d1 d2 d3; clear hown1 hgr1)
      | (refine stepM_own rfl (.tmp 6) (.tmp 7) 23 rfl (w.heap.size + 2) 25 i0 (.agg #[.string ByteArray.empty, .string ByteArray.empty, .string ByteArray.empty, .int .i64 0]) 4 56 Tryz.underlying23 HI.out.1 HI.out.2.1 HI.out.2.2.1 HI.out.2.2.2 rfl (by decide) (.slice (some ⟨w.heap.size + 2, 0, none⟩) 0 0) 0 [] rfl (own_empty_at B2.out.2.1 (by omega)) ⟨b, o, none⟩ l.length cap (l.flatMap RMsg.cells) rfl (msgs_len l) (fun j u hj => msgs_cell (HROW.out _ (put_base B2.out.1).b) j u hj) (msgs_one l) (by unfold maxLen; omega) (by omega) (put_size B2.out.1) ?_; intro v1 w1 hown1 hgr1; have HO1 : Hid (w1.ownsRow (w.heap.size + 2) 25 4 v1 l.length (l.flatMap RMsg.cells)) := hide (by have := hown1; simpa using this); have HB1 : Hid (Below (w.heap.size + 2) ((w.alloc (.cells #[.string m.frm, .string m.to, .string m.label, .int .i64 m.sort] 25)).alloc outZ) w1) := hide (B2.out.1.trans ((grownBy_apart hgr1).below (put_size B2.out.1) (by simp [vblocks, cellBlocks]))); have HMB := hide (grown_cells hgr1 (by omega) B2.out.2.2); obtain ⟨p1, c1, rfl⟩ := owns_shape HO1.out; obtain ⟨d0, d1, d2, d3⟩ := (put_base HB1.out).c; simp only [Nat.zero_add] at d0 d1 d2 d3; clear hown1 hgr1)
      | (refine stepM_own rfl (.tmp 6) (.tmp 7) 23 rfl (w.heap.size + 2) 25 i0 (.agg #[.string ByteArray.empty, .string ByteArray.empty, .string ByteArray.empty, .int .i64 0]) 4 56 Tryz.underlying23 HI.out.1 HI.out.2.1 HI.out.2.2.1 HI.out.2.2.2 rfl (by decide) (.slice (some ⟨w.heap.size + 3, 0, none⟩) 0 0) 0 [] rfl (own_empty_at B3.out.2.1 (by omega)) ⟨b, o, none⟩ l.length cap (l.flatMap RMsg.cells) rfl (msgs_len l) (fun j u hj => msgs_cell (HROW.out _ (put_base B3.out.1).b) j u hj) (msgs_one l) (by unfold maxLen; omega) (by omega) (put_size B3.out.1) ?_; intro v1 w1 hown1 hgr1; have HO1 : Hid (w1.ownsRow (w.heap.size + 2) 25 4 v1 l.length (l.flatMap RMsg.cells)) := hide (by have := hown1; simpa using this); have HB1 : Hid (Below (w.heap.size + 2) ((w.alloc (.cells #[.string m.frm, .string m.to, .string m.label, .int .i64 m.sort] 25)).alloc outZ) w1) := hide (B3.out.1.trans ((grownBy_apart hgr1).below (put_size B3.out.1) (by simp [vblocks, cellBlocks]))); have HMC := hide (grown_cells hgr1 (by omega) B3.out.2.2); obtain ⟨p1, c1, rfl⟩ := owns_shape HO1.out; obtain ⟨d0, d1, d2, d3⟩ := (put_base HB1.out).c; simp only [Nat.zero_add] at d0 d1 d2 d3; clear hown1 hgr1))
    all_goals
      have HS2 := hide (HO2.out.sl (by rw [HIN.out.2]; omega))
      go_wp2_with (first
        | (go_at_call 23; refine (s_net HQ.out _ _ HOK.out HS2.out).mono ?_; rintro e w3 ⟨rfl, hb3⟩; have HB3 := hide (put_next HB2.out hb3); have HO3 := hide (HO2.out.below hb3); obtain ⟨⟨x0, x1, x2, x3, x4, x5⟩, ez, -, -⟩ := put_base HB3.out; have z0 := ez 0; have z1 := ez 1; have z2 := ez 2; have z3 := ez 3; have z4 := ez 4; have z5 := ez 5; clear hb3 ez))
      obtain ⟨W5, hW5⟩ : ∃ W5, W5 = ((((((w3.setCell ⟨w.heap.size + 1, 0, none⟩ (.slice p2 (insL l l.length m).length c2)).setCell ⟨w.heap.size + 1, 1, none⟩ (.string ⟨#[]⟩)).setCell ⟨w.heap.size + 1, 2, none⟩ (.string ⟨#[]⟩)).setCell ⟨w.heap.size + 1, 3, none⟩ (.string ⟨#[]⟩)).setCell ⟨w.heap.size + 1, 4, none⟩ (.int .i64 0)).setCell ⟨w.heap.size + 1, 5, none⟩ (.int .i64 0)) := ⟨_, rfl⟩
      rw [← hW5]
      have hE := put_end (M := noMsg) (c := 0) HB3.out (Nat.lt_succ_self _) HO3.out hW5
      obtain ⟨⟨r0, r1, r2, r3, r4, r5⟩, hE1, hE2⟩ := hE
      clear hW5 x0 x1 x2 x3 x4 x5 z0 z1 z2 z3 z4 z5
      refine bodyPost_ret_by (v := netV (.slice p2 (insL l l.length m).length c2) noMsg 0) ?_ rfl ⟨_, rfl, hE1, hE2⟩
      unfold netV noMsg
      unfold noMsg at r1 r2 r3 r4
      simp only [] at r1 r2 r3 r4
      unfold results
      go_simp
set_option maxRecDepth 100000 in
set_option maxHeartbeats 1000000 in
theorem s_netPut (l : List RMsg) (m : RMsg) (b o cap : Nat) (w : World) (hok : ∀ x ∈ l, x.ok) (hm : m.ok) (hv : RMsgSl w w.heap.size (.slice (some ⟨b, o, none⟩) l.length cap) l) :
    Calls Tryz.prog 16 #[.slice (some ⟨b, o, none⟩) l.length cap, m.val] w fun e w' => NetAns w w' e (putR l m) noMsg (putW l m).code := by
  have HOK := hide hok
  have HMO := hide hm
  have HV := hide hv
  have hlm := hv.lenm
  obtain ⟨qm, hqm⟩ : ∃ q, msgB m = q := ⟨_, rfl⟩
  have HQM := hide hqm
  obtain ⟨q, hq⟩ : ∃ q, netB l = q := ⟨_, rfl⟩
  have HQ := hide hq
  have HB0 : Hid (Below (w.heap.size + 2) ((w.alloc (.cells #[.string m.frm, .string m.to, .string m.label, .int .i64 m.sort] 25)).alloc outZ) ((w.alloc (.cells #[.string m.frm, .string m.to, .string m.label, .int .i64 m.sort] 25)).alloc outZ)) := hide (Below.refl _ _)
  clear hok hm hv
  unfold RMsg.val
  by_cases h4 : 400 < l.length
  · have hpw : putW l m = .wrapped := by
      have : refuseW l (msgB m) = .wrapped := by rw [refuseW, if_pos h4]
      rw [putW_no (by rw [this]; intro h; cases h), this]
    rw [putR_no (by rw [hpw]; intro h; cases h), hpw, show Why.code .wrapped = 2 from rfl]
    clear hpw hq hqm
    go_enter Tryz.func16, Tryz.ntmps16
    go_wp2_with (go_at_call 52; refine (s_ill 2 _).mono ?_; rintro e w4 ⟨v4, rfl, ho4, hb4⟩; have HBL := hide (put_next HB0.out hb4); have HOL := hide ho4; obtain ⟨pa, pc, rfl⟩ := owns_shape ho4; obtain ⟨⟨x0, x1, x2, x3, x4, x5⟩, ez, -, -⟩ := put_base HBL.out; have z0 := ez 0; have z1 := ez 1; have z2 := ez 2; have z3 := ez 3; have z4 := ez 4; have z5 := ez 5; clear hb4 ez ho4; unfold netV noMsg)
    obtain ⟨W5, hW5⟩ : ∃ W5, W5 = ((((((w4.setCell ⟨w.heap.size + 1, 0, none⟩ (.slice pa 0 pc)).setCell ⟨w.heap.size + 1, 1, none⟩ (.string ByteArray.empty)).setCell ⟨w.heap.size + 1, 2, none⟩ (.string ByteArray.empty)).setCell ⟨w.heap.size + 1, 3, none⟩ (.string ByteArray.empty)).setCell ⟨w.heap.size + 1, 4, none⟩ (.int .i64 0)).setCell ⟨w.heap.size + 1, 5, none⟩ (.int .i64 2)) := ⟨_, rfl⟩
    rw [← hW5]
    have hE := put_end (M := noMsg) (c := 2) HBL.out (put_size HB0.out) HOL.out hW5
    obtain ⟨⟨r0, r1, r2, r3, r4, r5⟩, hE1, hE2⟩ := hE
    clear hW5 x0 x1 x2 x3 x4 x5 z0 z1 z2 z3 z4 z5
    refine bodyPost_ret_by (v := netV (.slice pa 0 pc) noMsg 2) ?_ rfl ⟨_, rfl, hE1, hE2⟩
    unfold netV noMsg
    unfold noMsg at r1 r2 r3 r4
    simp only [List.length_nil] at r0 r1 r2 r3 r4
    unfold results
    go_simp
  · have hrf : refuseW l (msgB m) = if qm && q then .normal else .report := by rw [refuseW, if_neg h4, hqm, hq]
    by_cases hqq : q = true ∧ qm = true
    · obtain ⟨rfl, rfl⟩ := hqq
      have hpw : putW l m = insW l l.length m := putW_yes (by rw [hrf]; rfl)
      have h36 := net_len hq
      have HIW : Hid (insW l l.length m = putW l m) := hide hpw.symm
      obtain ⟨cd, hcd⟩ : ∃ cd, (putW l m).code = cd := ⟨_, rfl⟩
      have HCD := hide hcd
      rw [hcd]
      obtain ⟨qi, hqi⟩ : ∃ qi, netB (insL l l.length m) = qi := ⟨_, rfl⟩
      have HQI := hide hqi
      cases qi
      · rw [putR_no (by rw [hpw, insW, hqi]; intro h; cases h)]
        clear hpw hqi hcd hrf hq hqm
        go_enter Tryz.func16, Tryz.ntmps16
        go_wp2_with (first
          | (go_at_call 23; refine (s_net HQ.out _ _ HOK.out ((HV.out.carry (put_base HB0.out).b).up (put_base HB0.out).b.size)).mono ?_; rintro e w1 ⟨rfl, hb1⟩; have HB1 := hide (put_next HB0.out hb1); obtain ⟨d0, d1, d2, d3⟩ := (put_base HB1.out).c; simp only [Nat.zero_add] at d0 d1 d2 d3; clear hb1)
          | (go_at_call 25; refine (s_msg (m := m) HQM.out HMO.out _).mono ?_; rintro e w2 ⟨rfl, hb2⟩; have HB2 := hide (put_next HB1.out hb2); obtain ⟨e0, e1, e2, e3⟩ := (put_base HB2.out).c; simp only [Nat.zero_add] at e0 e1 e2 e3; clear hb2)
          | (go_at_call 53; have hpp := s_l05put l m b o cap w2 HIW.out (by omega) HOK.out HMO.out ((HV.out.carry (put_base HB2.out).b).up (put_base HB2.out).b.size); rw [HQI.out, HCD.out] at hpp; refine hpp.mono ?_; rintro e w4 ⟨v4, rfl, ho4, hb4⟩; have HBL := hide (put_next HB2.out hb4); have HOL : Hid (RMsgOwn w4 w2.heap.size v4 []) := hide ho4; obtain ⟨pa, pc, rfl⟩ := owns_shape HOL.out; obtain ⟨⟨x0, x1, x2, x3, x4, x5⟩, ez, -, -⟩ := put_base HBL.out; have z0 := ez 0; have z1 := ez 1; have z2 := ez 2; have z3 := ez 3; have z4 := ez 4; have z5 := ez 5; clear hb4 ez ho4 hpp; unfold netV noMsg))
        obtain ⟨W5, hW5⟩ : ∃ W5, W5 = ((((((w4.setCell ⟨w.heap.size + 1, 0, none⟩ (.slice pa 0 pc)).setCell ⟨w.heap.size + 1, 1, none⟩ (.string ByteArray.empty)).setCell ⟨w.heap.size + 1, 2, none⟩ (.string ByteArray.empty)).setCell ⟨w.heap.size + 1, 3, none⟩ (.string ByteArray.empty)).setCell ⟨w.heap.size + 1, 4, none⟩ (.int .i64 0)).setCell ⟨w.heap.size + 1, 5, none⟩ (.int .i64 cd)) := ⟨_, rfl⟩
        rw [← hW5]
        have hE := put_end (M := noMsg) (c := cd) HBL.out (put_size HB2.out) HOL.out hW5
        obtain ⟨⟨r0, r1, r2, r3, r4, r5⟩, hE1, hE2⟩ := hE
        clear hW5 x0 x1 x2 x3 x4 x5 z0 z1 z2 z3 z4 z5
        refine bodyPost_ret_by (v := netV (.slice pa 0 pc) noMsg cd) ?_ rfl ⟨_, rfl, hE1, hE2⟩
        unfold netV noMsg
        unfold noMsg at r1 r2 r3 r4
        simp only [List.length_nil] at r0 r1 r2 r3 r4
        unfold results
        go_simp
      · rw [putR_yes (by rw [hpw, insW, hqi]; rfl)]
        clear hpw hqi hcd hrf hq hqm
        go_enter Tryz.func16, Tryz.ntmps16
        go_wp2_with (first
          | (go_at_call 23; refine (s_net HQ.out _ _ HOK.out ((HV.out.carry (put_base HB0.out).b).up (put_base HB0.out).b.size)).mono ?_; rintro e w1 ⟨rfl, hb1⟩; have HB1 := hide (put_next HB0.out hb1); obtain ⟨d0, d1, d2, d3⟩ := (put_base HB1.out).c; simp only [Nat.zero_add] at d0 d1 d2 d3; clear hb1)
          | (go_at_call 25; refine (s_msg (m := m) HQM.out HMO.out _).mono ?_; rintro e w2 ⟨rfl, hb2⟩; have HB2 := hide (put_next HB1.out hb2); obtain ⟨e0, e1, e2, e3⟩ := (put_base HB2.out).c; simp only [Nat.zero_add] at e0 e1 e2 e3; clear hb2)
          | (go_at_call 53; have hpp := s_l05put l m b o cap w2 HIW.out (by omega) HOK.out HMO.out ((HV.out.carry (put_base HB2.out).b).up (put_base HB2.out).b.size); rw [HQI.out, HCD.out] at hpp; refine hpp.mono ?_; rintro e w4 ⟨v4, rfl, ho4, hb4⟩; have HBL := hide (put_next HB2.out hb4); have HOL : Hid (RMsgOwn w4 w2.heap.size v4 (insL l l.length m)) := hide ho4; obtain ⟨pa, pc, rfl⟩ := owns_shape HOL.out; obtain ⟨⟨x0, x1, x2, x3, x4, x5⟩, ez, -, -⟩ := put_base HBL.out; have z0 := ez 0; have z1 := ez 1; have z2 := ez 2; have z3 := ez 3; have z4 := ez 4; have z5 := ez 5; clear hb4 ez ho4 hpp; unfold netV noMsg))
        obtain ⟨W5, hW5⟩ : ∃ W5, W5 = ((((((w4.setCell ⟨w.heap.size + 1, 0, none⟩ (.slice pa (insL l l.length m).length pc)).setCell ⟨w.heap.size + 1, 1, none⟩ (.string ByteArray.empty)).setCell ⟨w.heap.size + 1, 2, none⟩ (.string ByteArray.empty)).setCell ⟨w.heap.size + 1, 3, none⟩ (.string ByteArray.empty)).setCell ⟨w.heap.size + 1, 4, none⟩ (.int .i64 0)).setCell ⟨w.heap.size + 1, 5, none⟩ (.int .i64 cd)) := ⟨_, rfl⟩
        rw [← hW5]
        have hE := put_end (M := noMsg) (c := cd) HBL.out (put_size HB2.out) HOL.out hW5
        obtain ⟨⟨r0, r1, r2, r3, r4, r5⟩, hE1, hE2⟩ := hE
        clear hW5 x0 x1 x2 x3 x4 x5 z0 z1 z2 z3 z4 z5
        refine bodyPost_ret_by (v := netV (.slice pa (insL l l.length m).length pc) noMsg cd) ?_ rfl ⟨_, rfl, hE1, hE2⟩
        unfold netV noMsg
        unfold noMsg at r1 r2 r3 r4
        simp only [] at r1 r2 r3 r4
        unfold results
        go_simp
    · have hpw : putW l m = .report := by
        have : refuseW l (msgB m) = .report := by rw [hrf]; cases q <;> cases qm <;> first | rfl | exact absurd ⟨rfl, rfl⟩ hqq
        rw [putW_no (by rw [this]; intro h; cases h), this]
      rw [putR_no (by rw [hpw]; intro h; cases h), hpw, show Why.code .report = 1 from rfl]
      clear hpw hrf
      cases q
      · clear hq hqm hqq
        go_enter Tryz.func16, Tryz.ntmps16
        go_wp2_with (first
          | (go_at_call 23; refine (s_net HQ.out _ _ HOK.out ((HV.out.carry (put_base HB0.out).b).up (put_base HB0.out).b.size)).mono ?_; rintro e w1 ⟨rfl, hb1⟩; have HB1 := hide (put_next HB0.out hb1); obtain ⟨d0, d1, d2, d3⟩ := (put_base HB1.out).c; simp only [Nat.zero_add] at d0 d1 d2 d3; clear hb1)
          | (go_at_call 52; refine (s_ill 1 w1).mono ?_; rintro e w4 ⟨v4, rfl, ho4, hb4⟩; have HBL := hide (put_next HB1.out hb4); have HOL := hide ho4; obtain ⟨pa, pc, rfl⟩ := owns_shape ho4; obtain ⟨⟨x0, x1, x2, x3, x4, x5⟩, ez, -, -⟩ := put_base HBL.out; have z0 := ez 0; have z1 := ez 1; have z2 := ez 2; have z3 := ez 3; have z4 := ez 4; have z5 := ez 5; clear hb4 ez ho4; unfold netV noMsg))
        obtain ⟨W5, hW5⟩ : ∃ W5, W5 = ((((((w4.setCell ⟨w.heap.size + 1, 0, none⟩ (.slice pa 0 pc)).setCell ⟨w.heap.size + 1, 1, none⟩ (.string ByteArray.empty)).setCell ⟨w.heap.size + 1, 2, none⟩ (.string ByteArray.empty)).setCell ⟨w.heap.size + 1, 3, none⟩ (.string ByteArray.empty)).setCell ⟨w.heap.size + 1, 4, none⟩ (.int .i64 0)).setCell ⟨w.heap.size + 1, 5, none⟩ (.int .i64 1)) := ⟨_, rfl⟩
        rw [← hW5]
        have hE := put_end (M := noMsg) (c := 1) HBL.out (put_size HB1.out) HOL.out hW5
        obtain ⟨⟨r0, r1, r2, r3, r4, r5⟩, hE1, hE2⟩ := hE
        clear hW5 x0 x1 x2 x3 x4 x5 z0 z1 z2 z3 z4 z5
        refine bodyPost_ret_by (v := netV (.slice pa 0 pc) noMsg 1) ?_ rfl ⟨_, rfl, hE1, hE2⟩
        unfold netV noMsg
        unfold noMsg at r1 r2 r3 r4
        simp only [List.length_nil] at r0 r1 r2 r3 r4
        unfold results
        go_simp
      · obtain rfl : qm = false := by cases qm <;> first | rfl | exact absurd ⟨rfl, rfl⟩ hqq
        clear hq hqm hqq
        go_enter Tryz.func16, Tryz.ntmps16
        go_wp2_with (first
          | (go_at_call 23; refine (s_net HQ.out _ _ HOK.out ((HV.out.carry (put_base HB0.out).b).up (put_base HB0.out).b.size)).mono ?_; rintro e w1 ⟨rfl, hb1⟩; have HB1 := hide (put_next HB0.out hb1); obtain ⟨d0, d1, d2, d3⟩ := (put_base HB1.out).c; simp only [Nat.zero_add] at d0 d1 d2 d3; clear hb1)
          | (go_at_call 25; refine (s_msg (m := m) HQM.out HMO.out _).mono ?_; rintro e w2 ⟨rfl, hb2⟩; have HB2 := hide (put_next HB1.out hb2); obtain ⟨e0, e1, e2, e3⟩ := (put_base HB2.out).c; simp only [Nat.zero_add] at e0 e1 e2 e3; clear hb2)
          | (go_at_call 52; refine (s_ill 1 w2).mono ?_; rintro e w4 ⟨v4, rfl, ho4, hb4⟩; have HBL := hide (put_next HB2.out hb4); have HOL := hide ho4; obtain ⟨pa, pc, rfl⟩ := owns_shape ho4; obtain ⟨⟨x0, x1, x2, x3, x4, x5⟩, ez, -, -⟩ := put_base HBL.out; have z0 := ez 0; have z1 := ez 1; have z2 := ez 2; have z3 := ez 3; have z4 := ez 4; have z5 := ez 5; clear hb4 ez ho4; unfold netV noMsg))
        obtain ⟨W5, hW5⟩ : ∃ W5, W5 = ((((((w4.setCell ⟨w.heap.size + 1, 0, none⟩ (.slice pa 0 pc)).setCell ⟨w.heap.size + 1, 1, none⟩ (.string ByteArray.empty)).setCell ⟨w.heap.size + 1, 2, none⟩ (.string ByteArray.empty)).setCell ⟨w.heap.size + 1, 3, none⟩ (.string ByteArray.empty)).setCell ⟨w.heap.size + 1, 4, none⟩ (.int .i64 0)).setCell ⟨w.heap.size + 1, 5, none⟩ (.int .i64 1)) := ⟨_, rfl⟩
        rw [← hW5]
        have hE := put_end (M := noMsg) (c := 1) HBL.out (put_size HB2.out) HOL.out hW5
        obtain ⟨⟨r0, r1, r2, r3, r4, r5⟩, hE1, hE2⟩ := hE
        clear hW5 x0 x1 x2 x3 x4 x5 z0 z1 z2 z3 z4 z5
        refine bodyPost_ret_by (v := netV (.slice pa 0 pc) noMsg 1) ?_ rfl ⟨_, rfl, hE1, hE2⟩
        unfold netV noMsg
        unfold noMsg at r1 r2 r3 r4
        simp only [List.length_nil] at r0 r1 r2 r3 r4
        unfold results
        go_simp
end Go.Proofs.YtonafcifolddjaaGreatDoor
