/- NetFault of the specification. -/
import Derived.Test.YtonafcifolddjaaGreatDoorQB38
import Derived.Deep.DeepCutAuto
namespace Go.Proofs.YtonafcifolddjaaGreatDoor
open Go.RowKit
attribute [local go_sem ↓] Go.wp_at_zero Go.wp_at_succ

def NetAnsS (w w' : World) (e : Ending) (l : List RMsg) (m : RMsg) (c : Int) : Prop := ∃ sv, e = .returned (netV sv m c) ∧ OwnS w' w.heap.size sv l ∧ Below w.heap.size w w'
theorem ans_endS {w w3 W : World} {sv : Value} {l : List RMsg} {m : RMsg} {c : Int} {B : Nat} (h : Below (w.heap.size + 1) (w.alloc outZ) w3) (hB : w.heap.size < B) (ho : OwnS w3 B sv l) (hW : W = putOut w3 w.heap.size sv m c) :
    (W.cell? ⟨w.heap.size, 0, none⟩ = some sv ∧ W.cell? ⟨w.heap.size, 1, none⟩ = some (.string m.frm) ∧ W.cell? ⟨w.heap.size, 2, none⟩ = some (.string m.to) ∧ W.cell? ⟨w.heap.size, 3, none⟩ = some (.string m.label) ∧ W.cell? ⟨w.heap.size, 4, none⟩ = some (.int .i64 m.sort) ∧ W.cell? ⟨w.heap.size, 5, none⟩ = some (.int .i64 c)) ∧ OwnS W w.heap.size sv l ∧ Below w.heap.size w W := by
  obtain ⟨⟨d0, d1, d2, d3, d4, d5⟩, -, hb⟩ := out_cells h
  rw [hW]
  refine ⟨putOut_at _ _ _ _ _ (fun i hi => ?_), (ho.keep (putOut_apart w3 w.heap.size sv m c) (fun b hb' he => by have := ho.fresh.lo b hb'; simp at he; omega)).mono (by omega), hb.trans ((putOut_apart w3 w.heap.size sv m c).below hb.size (by simp))⟩
  rcases i with _ | _ | _ | _ | _ | _ | i
  all_goals first | exact ⟨_, d0⟩ | exact ⟨_, d1⟩ | exact ⟨_, d2⟩ | exact ⟨_, d3⟩ | exact ⟨_, d4⟩ | exact ⟨_, d5⟩ | omega
theorem own_emptyF {W : World} {g base : Nat} (hg : W.heap[g]? = some (.cells #[] 25 (0, 0))) (hb : base ≤ g) : W.ownsRow base 25 4 (.slice (some ⟨g, 0, none⟩) 0 0) 0 [] :=
  ⟨rfl, .inr ⟨g, 0, #[], rfl, hb, hg, Nat.le_refl _, Nat.zero_le _, rfl, rfl⟩⟩
theorem out_next {w W W' : World} (h : Below (w.heap.size + 1) (w.alloc outZ) W) (hb : Below W.heap.size W W') : Below (w.heap.size + 1) (w.alloc outZ) W' :=
  h.trans (hb.mono (by have := h.size; simp at this; exact this))
theorem out_size {w W : World} (h : Below (w.heap.size + 1) (w.alloc outZ) W) : w.heap.size < W.heap.size := by have := h.size; simp at this; omega
theorem out_grown {w W W' : World} {g n c : Nat} (h : Below (w.heap.size + 1) (w.alloc outZ) W) (hg : w.heap.size + 1 ≤ g) (hgr : W.grownBy W' (Value.slice (some ⟨g, 0, none⟩) n c).ownBlock) : Below (w.heap.size + 1) (w.alloc outZ) W' :=
  h.trans ((grownBy_apart hgr).below (out_size h) (by simp [vblocks, cellBlocks]; exact hg))
theorem take_ins {l : List RMsg} {k : Nat} (hk : k < l.length) : l.take (k + 1) ++ l.drop k = insL l (k + 1) l[k] := by
  rw [insL, List.drop_eq_getElem_cons hk]
theorem s_at2 {z : Int} {k : Nat} {f t : ByteArray} {l : List RMsg} (hz : atG (k + 1) f t l = z) (v : Value) (w : World) (h4 : l.length ≤ 4096) (hsl : k < l.length) (hv : RMsgSl w w.heap.size v l) :
    Calls Tryz.prog 55 #[v, .int .i64 ((k : Int) + 1), .string f, .string t] w fun e w' => e = .returned (.int .i64 z) ∧ Below w.heap.size w w' := s_at (s := k + 1) hz v w h4 hsl hv
theorem own_rowF {w : World} {lo g c : Nat} {l : List RMsg} (h : OwnS w lo (.slice (some ⟨g, 0, none⟩) l.length c) l) (hl : 0 < l.length) : RMsgs w g 0 l := by
  obtain ⟨a1, c1, e1, h1, h2, h3⟩ := h.sl
  injection e1 with e1
  obtain ⟨b1, o1, e4, -, hrow⟩ := h3 (by intro e; rw [e] at hl; simp at hl)
  rw [← e1] at e4
  injection e4 with e4
  injection e4 with e4 e5
  subst e4 e5
  exact hrow
set_option maxRecDepth 100000 in
set_option maxHeartbeats 1000000 in
theorem s_l05fault (l : List RMsg) (kind n : Int) (b o cap : Nat) (w : World) (h36 : l.length ≤ 36) (hk1 : 1 ≤ kind) (hk3 : kind ≤ 3) (hn0 : 0 ≤ n) (hn1 : n ≤ 1000000) (hok : ∀ x ∈ l, x.ok) (hv : RMsgSl w w.heap.size (.slice (some ⟨b, o, none⟩) l.length cap) l) :
    Calls Tryz.prog 59 #[.slice (some ⟨b, o, none⟩) l.length cap, .int .i64 kind, .int .i64 n] w fun e w' => NetAnsS w w' e (if doneW l kind n matches .normal then doneR l kind n else []) noMsg (doneW l kind n).code := by
  have HOK := hide hok
  have HV := hide hv
  obtain ⟨i0, hi, hz0, hz1, hz2⟩ := info_parts Tryz.infoRMsg
  have HI := hide (And.intro hi (And.intro hz0 (And.intro hz1 hz2)))
  have hc : l.length ≤ cap := by obtain ⟨a1, c1, e1, h1, -⟩ := hv; injection e1 with e1 e2 e3; omega
  clear hok hv hi hz0 hz1 hz2
  by_cases hl0 : l.length = 0
  · have hpn : doneW l kind n = .deferred := by rw [doneW, if_pos hl0]
    rw [hpn]
    obtain rfl : l = [] := List.length_eq_zero_iff.1 hl0
    simp only [List.length_nil]
    clear hpn hl0 HV
    go_enter Tryz.func59, Tryz.ntmps59
    go_wp2_with (go_at_call 52; refine (s_ill 6 _).mono ?_; rintro e w4 ⟨v4, rfl, ho4, hb4⟩; have HB4 : Hid (Below (w.heap.size + 1) (w.alloc outZ) w4) := hide (by have := hb4; simpa [outZ] using this); have HO4 := hide (ho4.own (by simp)); obtain ⟨pa, pc, rfl⟩ := owns_shape ho4; obtain ⟨⟨e0, e1, e2, e3, e4, e5⟩, ez, -⟩ := out_cells HB4.out; have z0 := ez 0; have z1 := ez 1; have z2 := ez 2; have z3 := ez 3; have z4 := ez 4; have z5 := ez 5; clear ez; clear hb4 ho4; unfold netV noMsg)
    rw [show Why.code .deferred = 6 from rfl]
    obtain ⟨W4, hW4⟩ : ∃ W4, W4 = ((((((w4.setCell ⟨w.heap.size, 0, none⟩ (.slice pa 0 pc)).setCell ⟨w.heap.size, 1, none⟩ (.string ByteArray.empty)).setCell ⟨w.heap.size, 2, none⟩ (.string ByteArray.empty)).setCell ⟨w.heap.size, 3, none⟩ (.string ByteArray.empty)).setCell ⟨w.heap.size, 4, none⟩ (.int .i64 0)).setCell ⟨w.heap.size, 5, none⟩ (.int .i64 6)) := ⟨_, rfl⟩
    rw [← hW4]
    have hE := ans_endS (m := noMsg) (c := 6) HB4.out (Nat.lt_succ_self _) (by have := HO4.out; simpa using this) hW4
    obtain ⟨⟨r0, r1, r2, r3, r4, r5⟩, hE1, hE2⟩ := hE
    clear hW4 e0 e1 e2 e3 e4 e5 z0 z1 z2 z3 z4 z5
    refine bodyPost_ret_by (v := netV (.slice pa 0 pc) noMsg 6) ?_ rfl ⟨_, rfl, hE1, hE2⟩
    unfold netV noMsg
    unfold noMsg at r1 r2 r3 r4
    simp only [] at r1 r2 r3 r4
    unfold results
    go_simp
  · obtain ⟨k, hkd⟩ : ∃ k, faultK l n = k := ⟨_, rfl⟩
    have hlp : 0 < l.length := by omega
    have hkl : k < l.length := by rw [← hkd]; exact Nat.mod_lt _ hlp
    have hmod : n % (l.length : Int) = (k : Int) := by rw [← hkd, faultK, Int.natCast_emod, Int.toNat_of_nonneg hn0]
    have HX : Hid (l.getD k noMsg = l[k]) := hide (by rw [List.getD_eq_getElem?_getD, List.getElem?_eq_getElem hkl]; rfl)
    have hdw : doneW l kind n = if kind = 1 then .normal else if kind = 2 then insW l (k + 1) l[k] else swapW l k := by rw [doneW, if_neg hl0, hkd, HX.out]
    have hdr : doneR l kind n = if kind = 1 then l.eraseIdx k else if kind = 2 then insL l (k + 1) l[k] else swapR l k := by rw [doneR, hkd, HX.out]
    have hcn : ¬ cap = k := by omega
    obtain ⟨hbB, hrow⟩ : b < w.heap.size ∧ RMsgs w b o l := by
      obtain ⟨a1, c1, e1, -, -, h3⟩ := HV.out
      injection e1 with e1
      obtain ⟨b1, o1, e4, h5, h6⟩ := h3 (by intro e; rw [e] at hlp; simp at hlp)
      have e5 := e1.trans e4
      injection e5 with e5
      injection e5 with e6 e7
      subst e6 e7
      exact ⟨h5, h6⟩
    have HROW : Hid (∀ W, Below w.heap.size w W → RMsgs W b o l) := hide (fun W hb => hrow.carry hbB hb)
    have hnode := hrow.get k hkl
    obtain ⟨x1, hx1⟩ : ∃ x1, x1 = l[k] := ⟨_, rfl⟩
    rw [← hx1] at hdw hdr hnode HX
    have HND : Hid (∀ W, Below w.heap.size w W → RMsgAt W b (o + k * 4) x1) := hide (fun W hb => hnode.carry hbB hb)
    have HXX := hide hx1
    clear hkd hx1 hnode hrow
    rcases (show kind = 1 ∨ kind = 2 ∨ kind = 3 by omega) with rfl | rfl | rfl
    · rw [if_pos rfl] at hdw hdr
      rw [hdw, hdr]
      clear hdw hdr
      go_enter Tryz.func59, Tryz.ntmps59
      go_wp2_with (go_at_call 56; refine (s_cut l k _ _ hkl (by omega) ((HV.out.carry (malloc1 _ _)).up (malloc1 _ _).size)).mono ?_; rintro e w3 ⟨v3, rfl, ho3, hb3⟩; have HB3 : Hid (Below (w.heap.size + 1) (w.alloc outZ) w3) := hide (by have := hb3; simpa [outZ] using this); have HO3 := hide ho3; obtain ⟨pa, pc, rfl⟩ := owns_shape ho3; obtain ⟨⟨e0, e1, e2, e3, e4, e5⟩, ez, hbw3⟩ := out_cells HB3.out; have z0 := ez 0; have z1 := ez 1; have z2 := ez 2; have z3 := ez 3; have z4 := ez 4; have z5 := ez 5; clear hb3 ez hbw3 ho3)
      rw [show Why.code .normal = 0 from rfl]
      obtain ⟨W4, hW4⟩ : ∃ W4, W4 = ((((((w3.setCell ⟨w.heap.size, 0, none⟩ (.slice pa (l.eraseIdx k).length pc)).setCell ⟨w.heap.size, 1, none⟩ (.string ⟨#[]⟩)).setCell ⟨w.heap.size, 2, none⟩ (.string ⟨#[]⟩)).setCell ⟨w.heap.size, 3, none⟩ (.string ⟨#[]⟩)).setCell ⟨w.heap.size, 4, none⟩ (.int .i64 0)).setCell ⟨w.heap.size, 5, none⟩ (.int .i64 0)) := ⟨_, rfl⟩
      rw [← hW4]
      have hE := ans_endS (m := noMsg) (c := 0) HB3.out (Nat.lt_succ_self _) (by have := HO3.out.own (by rw [List.length_eraseIdx]; split <;> omega); simpa using this) hW4
      obtain ⟨⟨r0, r1, r2, r3, r4, r5⟩, hE1, hE2⟩ := hE
      clear hW4 e0 e1 e2 e3 e4 e5 z0 z1 z2 z3 z4 z5
      refine bodyPost_ret_by (v := netV (.slice pa (l.eraseIdx k).length pc) noMsg 0) ?_ rfl ⟨_, rfl, hE1, hE2⟩
      unfold netV noMsg
      unfold noMsg at r1 r2 r3 r4
      simp only [] at r1 r2 r3 r4
      unfold results
      go_simp
    · rw [if_neg (by decide), if_pos rfl] at hdw hdr
      obtain ⟨n1, hn1'⟩ : ∃ n1, l.length - k = n1 := ⟨_, rfl⟩
      obtain ⟨c5, hc5⟩ : ∃ c5, cap - k = c5 := ⟨_, rfl⟩
      have HEM : Hid (Below (w.heap.size + 1) (w.alloc outZ) ((w.alloc outZ).alloc (.cells #[] 25)) ∧ ((w.alloc outZ).alloc (.cells #[] 25)).heap[w.heap.size + 1]? = some (.cells #[] 25 (0, 0))) := hide ⟨(Below.refl _ _).alloc (by simp) _, mheap_new _ _ _ (by simp)⟩
      have HOL : Hid (((l.take (k + 1)).flatMap RMsg.cells).length = (k + 1) * 4) := hide (by rw [msgs_len, List.length_take]; omega)
      have HNL : Hid (((l.drop k).flatMap RMsg.cells).length = n1 * 4) := hide (by rw [msgs_len, List.length_drop, hn1'])
      have HOE : Hid ((l.take (k + 1)).flatMap RMsg.cells ++ (l.drop k).flatMap RMsg.cells = (insL l (k + 1) x1).flatMap RMsg.cells ∧ (insL l (k + 1) x1).length = k + 1 + n1) := hide ⟨by rw [← List.flatMap_append, take_ins hkl, ← HXX.out], by rw [insL_len x1 hkl]; omega⟩
      have hxm : x1 ∈ l := by rw [HXX.out]; exact List.getElem_mem hkl
      have HOI : Hid (∀ x ∈ insL l (k + 1) x1, x.ok) := hide (fun x hx => by rcases insL_mem hx with h | rfl; exact HOK.out x h; exact HOK.out _ hxm)
      obtain ⟨q, hq⟩ : ∃ q, netB (insL l (k + 1) x1) = q := ⟨_, rfl⟩
      have HQ := hide hq
      have hiw : insW l (k + 1) x1 = if q then .normal else .early := by rw [insW, hq]
      rw [hiw] at hdw
      cases q
      · rw [if_neg (by simp)] at hdw
        rw [hdw]
        clear hdw hdr hq hiw hxm
        go_enter Tryz.func59, Tryz.ntmps59
        go_wp2_with (first | (at_builtin; refine wpList_append_own _ rfl (.tmp 34) (.tmp 37) 23 rfl (w.heap.size + 1) 25 i0 (.agg #[.string ByteArray.empty, .string ByteArray.empty, .string ByteArray.empty, .int .i64 0]) 4 56 Tryz.underlying23 HI.out.1 HI.out.2.1 HI.out.2.2.1 HI.out.2.2.2 rfl (by decide) (.slice p1 (k + 1) c1) (k + 1) ((l.take (k + 1)).flatMap RMsg.cells) rfl HO1.out ⟨b, o + k * 4, none⟩ n1 c5 ((l.drop k).flatMap RMsg.cells) rfl HNL.out (fun j u hj => msgs_cell ((HROW.out _ (out_cells HB1.out).2.2).drop k) j u hj) (msgs_one _) (by unfold maxLen; omega) (by omega) (out_size HB1.out) ?_; intro v2 w2 hown2 hgr2 _; have HO2 : Hid (RMsgOwn w2 (w.heap.size + 1) v2 (insL l (k + 1) x1)) := hide (by unfold RMsgOwn; rw [HOE.out.2, ← HOE.out.1]; exact hown2); have HB2 : Hid (Below (w.heap.size + 1) (w.alloc outZ) w2) := hide (HB1.out.trans ((grownBy_apart hgr2).below (out_size HB1.out) (fun q hq => (owns_fresh HO1.out).lo q hq))); obtain ⟨p2, c2, rfl⟩ := owns_shape HO2.out; have HS2 := hide (HO2.out.sl (by rw [HOE.out.2]; omega)); clear hown2 hgr2) | (at_builtin; refine wpList_append_own _ rfl (.tmp 28) (.tmp 32) 23 rfl (w.heap.size + 1) 25 i0 (.agg #[.string ByteArray.empty, .string ByteArray.empty, .string ByteArray.empty, .int .i64 0]) 4 56 Tryz.underlying23 HI.out.1 HI.out.2.1 HI.out.2.2.1 HI.out.2.2.2 rfl (by decide) (.slice (some ⟨w.heap.size + 1, 0, none⟩) 0 0) 0 [] rfl (own_emptyF HEM.out.2 (Nat.le_refl _)) ⟨b, o, none⟩ (k + 1) cap ((l.take (k + 1)).flatMap RMsg.cells) rfl HOL.out (fun j u hj => msgs_cell ((HROW.out _ (out_cells HEM.out.1).2.2).take (k + 1)) j u hj) (msgs_one _) (by unfold maxLen; omega) (by omega) (out_size HEM.out.1) ?_; intro v1 w1 hown1 hgr1 _; have HB1 : Hid (Below (w.heap.size + 1) (w.alloc outZ) w1) := hide (out_grown HEM.out.1 (Nat.le_refl _) hgr1); have HO1 : Hid (w1.ownsRow (w.heap.size + 1) 25 4 v1 (k + 1) ((l.take (k + 1)).flatMap RMsg.cells)) := hide (by have := hown1; simpa using this); obtain ⟨p1, c1, rfl⟩ := owns_shape HO1.out; clear hown1 hgr1) | (go_at_call 23; refine (s_net HQ.out _ _ HOI.out HS2.out).mono ?_; rintro e w3 ⟨rfl, hb3⟩; have HB3 := hide (out_next HB2.out hb3); have HO3 := hide (HO2.out.below hb3); clear hb3) | (go_at_call 52; refine (s_ill 9 w3).mono ?_; rintro e w4 ⟨v4, rfl, ho4, hb4⟩; have HB4 : Hid (Below (w.heap.size + 1) (w.alloc outZ) w4) := hide (out_next HB3.out hb4); have HO4 := hide (ho4.own (by simp)); obtain ⟨pa, pc, rfl⟩ := owns_shape ho4; obtain ⟨⟨e0, e1, e2, e3, e4, e5⟩, ez, -⟩ := out_cells HB4.out; have z0 := ez 0; have z1 := ez 1; have z2 := ez 2; have z3 := ez 3; have z4 := ez 4; have z5 := ez 5; clear ez; clear hb4 ho4; unfold netV noMsg))
        rw [show Why.code .early = 9 from rfl]
        obtain ⟨W4, hW4⟩ : ∃ W4, W4 = ((((((w4.setCell ⟨w.heap.size, 0, none⟩ (.slice pa 0 pc)).setCell ⟨w.heap.size, 1, none⟩ (.string ByteArray.empty)).setCell ⟨w.heap.size, 2, none⟩ (.string ByteArray.empty)).setCell ⟨w.heap.size, 3, none⟩ (.string ByteArray.empty)).setCell ⟨w.heap.size, 4, none⟩ (.int .i64 0)).setCell ⟨w.heap.size, 5, none⟩ (.int .i64 9)) := ⟨_, rfl⟩
        rw [← hW4]
        have hE := ans_endS (m := noMsg) (c := 9) HB4.out (out_size HB3.out) HO4.out hW4
        obtain ⟨⟨r0, r1, r2, r3, r4, r5⟩, hE1, hE2⟩ := hE
        clear hW4 e0 e1 e2 e3 e4 e5 z0 z1 z2 z3 z4 z5
        refine bodyPost_ret_by (v := netV (.slice pa 0 pc) noMsg 9) ?_ rfl ⟨_, rfl, hE1, hE2⟩
        unfold netV noMsg
        unfold noMsg at r1 r2 r3 r4
        simp only [List.length_nil] at r0 r1 r2 r3 r4
        unfold results
        go_simp
      · rw [if_pos rfl] at hdw
        rw [hdw, hdr]
        clear hdw hdr hq hiw hxm
        go_enter Tryz.func59, Tryz.ntmps59
        go_wp2_with (first | (at_builtin; refine wpList_append_own _ rfl (.tmp 34) (.tmp 37) 23 rfl (w.heap.size + 1) 25 i0 (.agg #[.string ByteArray.empty, .string ByteArray.empty, .string ByteArray.empty, .int .i64 0]) 4 56 Tryz.underlying23 HI.out.1 HI.out.2.1 HI.out.2.2.1 HI.out.2.2.2 rfl (by decide) (.slice p1 (k + 1) c1) (k + 1) ((l.take (k + 1)).flatMap RMsg.cells) rfl HO1.out ⟨b, o + k * 4, none⟩ n1 c5 ((l.drop k).flatMap RMsg.cells) rfl HNL.out (fun j u hj => msgs_cell ((HROW.out _ (out_cells HB1.out).2.2).drop k) j u hj) (msgs_one _) (by unfold maxLen; omega) (by omega) (out_size HB1.out) ?_; intro v2 w2 hown2 hgr2 _; have HO2 : Hid (RMsgOwn w2 (w.heap.size + 1) v2 (insL l (k + 1) x1)) := hide (by unfold RMsgOwn; rw [HOE.out.2, ← HOE.out.1]; exact hown2); have HB2 : Hid (Below (w.heap.size + 1) (w.alloc outZ) w2) := hide (HB1.out.trans ((grownBy_apart hgr2).below (out_size HB1.out) (fun q hq => (owns_fresh HO1.out).lo q hq))); obtain ⟨p2, c2, rfl⟩ := owns_shape HO2.out; have HS2 := hide (HO2.out.sl (by rw [HOE.out.2]; omega)); clear hown2 hgr2) | (at_builtin; refine wpList_append_own _ rfl (.tmp 28) (.tmp 32) 23 rfl (w.heap.size + 1) 25 i0 (.agg #[.string ByteArray.empty, .string ByteArray.empty, .string ByteArray.empty, .int .i64 0]) 4 56 Tryz.underlying23 HI.out.1 HI.out.2.1 HI.out.2.2.1 HI.out.2.2.2 rfl (by decide) (.slice (some ⟨w.heap.size + 1, 0, none⟩) 0 0) 0 [] rfl (own_emptyF HEM.out.2 (Nat.le_refl _)) ⟨b, o, none⟩ (k + 1) cap ((l.take (k + 1)).flatMap RMsg.cells) rfl HOL.out (fun j u hj => msgs_cell ((HROW.out _ (out_cells HEM.out.1).2.2).take (k + 1)) j u hj) (msgs_one _) (by unfold maxLen; omega) (by omega) (out_size HEM.out.1) ?_; intro v1 w1 hown1 hgr1 _; have HB1 : Hid (Below (w.heap.size + 1) (w.alloc outZ) w1) := hide (out_grown HEM.out.1 (Nat.le_refl _) hgr1); have HO1 : Hid (w1.ownsRow (w.heap.size + 1) 25 4 v1 (k + 1) ((l.take (k + 1)).flatMap RMsg.cells)) := hide (by have := hown1; simpa using this); obtain ⟨p1, c1, rfl⟩ := owns_shape HO1.out; clear hown1 hgr1) | (go_at_call 23; refine (s_net HQ.out _ _ HOI.out HS2.out).mono ?_; rintro e w3 ⟨rfl, hb3⟩; have HB3 := hide (out_next HB2.out hb3); have HO3 := hide (HO2.out.below hb3); obtain ⟨⟨e0, e1, e2, e3, e4, e5⟩, ez, -⟩ := out_cells HB3.out; have z0 := ez 0; have z1 := ez 1; have z2 := ez 2; have z3 := ez 3; have z4 := ez 4; have z5 := ez 5; clear ez; clear hb3))
        rw [show Why.code .normal = 0 from rfl]
        obtain ⟨pa, hpa⟩ : ∃ pa, p2 = pa := ⟨_, rfl⟩
        obtain ⟨pc, hpc⟩ : ∃ pc, c2 = pc := ⟨_, rfl⟩
        subst hpa hpc
        obtain ⟨W4, hW4⟩ : ∃ W4, W4 = ((((((w3.setCell ⟨w.heap.size, 0, none⟩ (.slice p2 (insL l (k + 1) x1).length c2)).setCell ⟨w.heap.size, 1, none⟩ (.string ⟨#[]⟩)).setCell ⟨w.heap.size, 2, none⟩ (.string ⟨#[]⟩)).setCell ⟨w.heap.size, 3, none⟩ (.string ⟨#[]⟩)).setCell ⟨w.heap.size, 4, none⟩ (.int .i64 0)).setCell ⟨w.heap.size, 5, none⟩ (.int .i64 0)) := ⟨_, rfl⟩
        rw [← hW4]
        have hE := ans_endS (m := noMsg) (c := 0) HB3.out (Nat.lt_succ_self _) (HO3.out.own (by rw [HOE.out.2]; omega)) hW4
        obtain ⟨⟨r0, r1, r2, r3, r4, r5⟩, hE1, hE2⟩ := hE
        clear hW4 e0 e1 e2 e3 e4 e5 z0 z1 z2 z3 z4 z5
        refine bodyPost_ret_by (v := netV (.slice p2 (insL l (k + 1) x1).length c2) noMsg 0) ?_ rfl ⟨_, rfl, hE1, hE2⟩
        unfold netV noMsg
        unfold noMsg at r1 r2 r3 r4
        simp only [] at r1 r2 r3 r4
        unfold results
        go_simp
    · rw [if_neg (by decide), if_neg (by decide)] at hdw hdr
      cases hr : atI x1.frm x1.to (l.drop (k + 1)) with
      | none =>
        have hw3 : swapW l k = .deferred := by rw [swapW, HX.out, hr]
        rw [hw3] at hdw
        rw [hdw]
        have HAT : Hid (atG (k + 1) x1.frm x1.to l = -1) := hide (by
          unfold atG
          have : (l.drop (k + 1)).findIdx? (isMsg x1.frm x1.to) = none := hr
          rw [this])
        clear hdw hdr hw3 hr
        go_enter Tryz.func59, Tryz.ntmps59
        go_wp2_with fail
        refine wp_region_grown (by kernel_rfl) (by kernel_rfl) (fun W hW => ?_)
        have hne := grown_some W
        have HBW0 : Below (w.heap.size + 1) (w.alloc outZ) W := by rw [hW]; exact Below.refl _ _
        obtain ⟨d0, d1, d2, d3⟩ := HND.out _ (out_cells HBW0).2.2
        have f0 := grown_cell (w := W) d0
        have f1 := grown_cell (w := W) d1
        have f2 := grown_cell (w := W) d2
        have f3 := grown_cell (w := W) d3
        have HBG : Hid (∀ g : Grown W, Below (w.heap.size + 1) (w.alloc outZ) g.val) := hide (fun g => out_next HBW0 g.bel)
        have HW0 := hide HBW0
        clear hW HBW0 d0 d1 d2 d3
        repeat (go_big_quiet_step ((go_at_call 55; exact grown_more (s_at2 HAT.out _ _ (by omega) hkl ((HV.out.carry (out_cells (HBG.out _)).2.2).up (out_cells (HBG.out _)).2.2.size)))))
        refine wpQuiet_nil ?_
        intro w2 hw2
        have HB2 := hide (out_next HW0.out hw2)
        clear hw2 hne f0 f1 f2 f3 HBG HW0
        go_wp2_with (go_at_call 52; refine (s_ill 6 w2).mono ?_; rintro e w4 ⟨v4, rfl, ho4, hb4⟩; have HB4 : Hid (Below (w.heap.size + 1) (w.alloc outZ) w4) := hide (out_next HB2.out hb4); have HO4 := hide (ho4.own (by simp)); obtain ⟨pa, pc, rfl⟩ := owns_shape ho4; obtain ⟨⟨e0, e1, e2, e3, e4, e5⟩, ez, -⟩ := out_cells HB4.out; have z0 := ez 0; have z1 := ez 1; have z2 := ez 2; have z3 := ez 3; have z4 := ez 4; have z5 := ez 5; clear ez; clear hb4 ho4; unfold netV noMsg)
        rw [show Why.code .deferred = 6 from rfl]
        obtain ⟨W4, hW4⟩ : ∃ W4, W4 = ((((((w4.setCell ⟨w.heap.size, 0, none⟩ (.slice pa 0 pc)).setCell ⟨w.heap.size, 1, none⟩ (.string ByteArray.empty)).setCell ⟨w.heap.size, 2, none⟩ (.string ByteArray.empty)).setCell ⟨w.heap.size, 3, none⟩ (.string ByteArray.empty)).setCell ⟨w.heap.size, 4, none⟩ (.int .i64 0)).setCell ⟨w.heap.size, 5, none⟩ (.int .i64 6)) := ⟨_, rfl⟩
        rw [← hW4]
        have hE := ans_endS (m := noMsg) (c := 6) HB4.out (out_size HB2.out) HO4.out hW4
        obtain ⟨⟨r0, r1, r2, r3, r4, r5⟩, hE1, hE2⟩ := hE
        clear hW4 e0 e1 e2 e3 e4 e5 z0 z1 z2 z3 z4 z5
        refine bodyPost_ret_by (v := netV (.slice pa 0 pc) noMsg 6) ?_ rfl ⟨_, rfl, hE1, hE2⟩
        unfold netV noMsg
        unfold noMsg at r1 r2 r3 r4
        simp only [List.length_nil] at r0 r1 r2 r3 r4
        unfold results
        go_simp
      | some i =>
        have hil : i < (l.drop (k + 1)).length := atI_lt hr
        obtain ⟨j, hj⟩ : ∃ j, k + 1 + i = j := ⟨_, rfl⟩
        have hjl : j < l.length := by rw [List.length_drop] at hil; omega
        have hw3 : swapW l k = .normal := by rw [swapW, HX.out, hr]
        have hr3 : swapR l k = swapL l k j := by rw [swapR, HX.out, hr, ← hj]
        rw [hw3] at hdw
        rw [hr3] at hdr
        rw [hdw, hdr]
        have HAT : Hid (atG (k + 1) x1.frm x1.to l = (j : Int)) := hide (by
          unfold atG
          have : (l.drop (k + 1)).findIdx? (isMsg x1.frm x1.to) = some i := hr
          rw [this]
          simp only []
          omega)
        obtain ⟨x2, hx2⟩ : ∃ x2, x2 = l[j] := ⟨_, rfl⟩
        have HX2 := hide hx2
        have HX3 : Hid (l.getD j noMsg = x2) := hide (by rw [List.getD_eq_getElem?_getD, List.getElem?_eq_getElem hjl, hx2]; rfl)
        clear hdw hdr hw3 hr hil hr3 hx2
        go_enter Tryz.func59, Tryz.ntmps59
        go_wp2_with fail
        refine wp_region_grown (by kernel_rfl) (by kernel_rfl) (fun W hW => ?_)
        have hne := grown_some W
        have HBW0 : Below (w.heap.size + 1) (w.alloc outZ) W := by rw [hW]; exact Below.refl _ _
        obtain ⟨d0, d1, d2, d3⟩ := HND.out _ (out_cells HBW0).2.2
        have f0 := grown_cell (w := W) d0
        have f1 := grown_cell (w := W) d1
        have f2 := grown_cell (w := W) d2
        have f3 := grown_cell (w := W) d3
        have HBG : Hid (∀ g : Grown W, Below (w.heap.size + 1) (w.alloc outZ) g.val) := hide (fun g => out_next HBW0 g.bel)
        have HW0 := hide HBW0
        clear hW HBW0 d0 d1 d2 d3
        repeat (go_big_quiet_step ((go_at_call 55; exact grown_more (s_at2 HAT.out _ _ (by omega) hkl ((HV.out.carry (out_cells (HBG.out _)).2.2).up (out_cells (HBG.out _)).2.2.size)))))
        refine wpQuiet_nil ?_
        intro w2 hw2
        have HB2 := hide (out_next HW0.out hw2)
        clear hw2 hne f0 f1 f2 f3 HBG HW0
        simp only [hmod]
        go_upto_region 17 with (at_builtin; refine wpList_append_own _ rfl (.tmp 62) (.tmp 63) 23 rfl w2.heap.size 25 i0 (.agg #[.string ByteArray.empty, .string ByteArray.empty, .string ByteArray.empty, .int .i64 0]) 4 56 Tryz.underlying23 HI.out.1 HI.out.2.1 HI.out.2.2.1 HI.out.2.2.2 rfl (by decide) (.slice (some ⟨w2.heap.size, 0, none⟩) 0 0) 0 [] rfl (own_empty w2) ⟨b, o, none⟩ l.length cap (l.flatMap RMsg.cells) rfl (msgs_len l) (fun j u hj => msgs_cell (HROW.out _ ((out_cells HB2.out).2.2.trans ((malloc1 _ _).mono (out_cells HB2.out).2.2.size))) j u hj) (msgs_one l) (by unfold maxLen; omega) (by omega) (by simp) ?_; intro v3 w3 hown3 hgr3 _; have HB3 : Hid (Below (w.heap.size + 1) (w.alloc outZ) w3) := hide (out_next HB2.out (own_grown' hgr3)); have ho3 : RMsgOwn w3 w2.heap.size v3 l := (by have := hown3; simpa [RMsgOwn] using this); have HO3 := hide (ho3.own (by omega)); obtain ⟨g3, c3, rfl, hg3, hg3', hg3c⟩ := own_addr ho3 rfl (by omega); obtain ⟨s0, s1, s2, s3⟩ := HND.out _ (out_cells HB3.out).2.2; obtain ⟨t0, t1, t2, t3⟩ := (HROW.out _ (out_cells HB3.out).2.2).get j hjl; rw [← HX2.out] at t0 t1 t2 t3; have HGR := hide (own_rowF HO3.out hlp); obtain ⟨q0, q1, q2, q3⟩ := HGR.out.get k hkl; obtain ⟨r0, r1, r2, r3⟩ := HGR.out.get j hjl; rw [← HXX.out] at q0 q1 q2 q3; rw [← HX2.out] at r0 r1 r2 r3; simp only [Nat.zero_add] at q0 q1 q2 q3 r0 r1 r2 r3; have hfz : ∀ o, w3.frozen? ⟨g3, o, none⟩ = false := (fun o => HO3.out.fresh.free g3 (by simp [vblocks, cellBlocks]) o); have y0 := hfz (k * 4); have y1 := hfz (k * 4 + 1); have y2 := hfz (k * 4 + 2); have y3 := hfz (k * 4 + 3); have u0 := hfz (j * 4); have u1 := hfz (j * 4 + 1); have u2 := hfz (j * 4 + 2); have u3 := hfz (j * 4 + 3); have hbg : ¬ g3 = b := (by have := (out_cells HB2.out).2.2.size; omega); have hbg2 : ¬ b = g3 := (by have := (out_cells HB2.out).2.2.size; omega); have hj4 : ¬ k * 4 = j * 4 := (by omega); clear hfz hown3 hgr3 ho3)
        go_upto_region 18 with fail
        obtain ⟨W5, hW5⟩ : ∃ W5, W5 = putMsg w3 g3 (k * 4) x2 := ⟨_, rfl⟩
        have hgo5 : W5 = ((((w3.setCell ⟨g3, k * 4, none⟩ (.string x2.frm)).setCell ⟨g3, k * 4 + 1, none⟩ (.string x2.to)).setCell ⟨g3, k * 4 + 2, none⟩ (.string x2.label)).setCell ⟨g3, k * 4 + 3, none⟩ (.int .i64 x2.sort)) := hW5
        rw [← hgo5]
        have hsb : ∀ p v, w3.cell? ⟨b, p, none⟩ = some v → W5.cell? ⟨b, p, none⟩ = some v := fun p v h => by rw [hW5]; exact (putMsg_other _ _ _ _ _ (fun q hq he => by injection he with h1 h2; exact hbg2 h1)).trans h
        have hsg : ∀ p v, k * 4 + 4 ≤ p → w3.cell? ⟨g3, p, none⟩ = some v → W5.cell? ⟨g3, p, none⟩ = some v := fun p v hp h => by rw [hW5]; exact (putMsg_other _ _ _ _ _ (fun q hq he => by injection he with h1 h2; omega)).trans h
        have hfz : ∀ o, W5.frozen? ⟨g3, o, none⟩ = false := fun o => by rw [hW5, putMsg_frozen]; exact HO3.out.fresh.free g3 (by simp [vblocks, cellBlocks]) o
        replace s0 := hsb _ _ s0
        replace s1 := hsb _ _ s1
        replace s2 := hsb _ _ s2
        replace s3 := hsb _ _ s3
        replace r0 := hsg _ _ (by omega) r0
        replace r1 := hsg _ _ (by omega) r1
        replace r2 := hsg _ _ (by omega) r2
        replace r3 := hsg _ _ (by omega) r3
        have u0 := hfz (j * 4)
        have u1 := hfz (j * 4 + 1)
        have u2 := hfz (j * 4 + 2)
        have u3 := hfz (j * 4 + 3)
        have HW5 := hide hW5
        clear hgo5 hsb hsg hfz hW5 q0 q1 q2 q3 t0 t1 t2 t3 y0 y1 y2 y3
        go_upto_region 19 with fail
        obtain ⟨W6, hW6⟩ : ∃ W6, W6 = putMsg W5 g3 (j * 4) x1 := ⟨_, rfl⟩
        have hgo6 : W6 = ((((W5.setCell ⟨g3, j * 4, none⟩ (.string x1.frm)).setCell ⟨g3, j * 4 + 1, none⟩ (.string x1.to)).setCell ⟨g3, j * 4 + 2, none⟩ (.string x1.label)).setCell ⟨g3, j * 4 + 3, none⟩ (.int .i64 x1.sort)) := hW6
        rw [← hgo6]
        have HSW : Hid (OwnS W6 w2.heap.size (.slice (some ⟨g3, 0, none⟩) l.length c3) (swapL l k j)) := hide (by
          have := OwnS.swap (k := k) (j := j) x2 x1 rfl HO3.out hkl hjl
          rw [swapL, HX3.out, HX.out, hW6, HW5.out]
          exact this)
        have HB6 : Hid (Below (w.heap.size + 1) (w.alloc outZ) W6) := hide (by
          rw [hW6, HW5.out]
          exact swap_below HB3.out (Nat.le_trans (out_size HB2.out) hg3) _ _ _ _)
        obtain ⟨⟨e0, e1, e2, e3, e4, e5⟩, ez, -⟩ := out_cells HB6.out
        have z0 := ez 0
        have z1 := ez 1
        have z2 := ez 2
        have z3 := ez 3
        have z4 := ez 4
        have z5 := ez 5
        clear hgo6 hW6 ez s0 s1 s2 s3 r0 r1 r2 r3 u0 u1 u2 u3
        go_wp2_with fail
        rw [show Why.code .normal = 0 from rfl]
        obtain ⟨W7, hW7⟩ : ∃ W7, W7 = ((((((W6.setCell ⟨w.heap.size, 0, none⟩ (.slice (some ⟨g3, 0, none⟩) l.length c3)).setCell ⟨w.heap.size, 1, none⟩ (.string ⟨#[]⟩)).setCell ⟨w.heap.size, 2, none⟩ (.string ⟨#[]⟩)).setCell ⟨w.heap.size, 3, none⟩ (.string ⟨#[]⟩)).setCell ⟨w.heap.size, 4, none⟩ (.int .i64 0)).setCell ⟨w.heap.size, 5, none⟩ (.int .i64 0)) := ⟨_, rfl⟩
        rw [← hW7]
        have hE := ans_endS (m := noMsg) (c := 0) HB6.out (out_size HB2.out) HSW.out hW7
        obtain ⟨⟨r0, r1, r2, r3, r4, r5⟩, hE1, hE2⟩ := hE
        clear hW7 e0 e1 e2 e3 e4 e5 z0 z1 z2 z3 z4 z5
        refine bodyPost_ret_by (v := netV (.slice (some ⟨g3, 0, none⟩) l.length c3) noMsg 0) ?_ rfl ⟨_, rfl, hE1, hE2⟩
        unfold netV noMsg
        unfold noMsg at r1 r2 r3 r4
        simp only [] at r1 r2 r3 r4
        unfold results
        go_simp
end Go.Proofs.YtonafcifolddjaaGreatDoor
