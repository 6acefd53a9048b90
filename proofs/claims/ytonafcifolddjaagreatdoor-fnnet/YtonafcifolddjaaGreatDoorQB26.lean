/- NetSee of the specification. -/
import Derived.Test.YtonafcifolddjaaGreatDoorQB25
namespace Go.Proofs.YtonafcifolddjaaGreatDoor
open Go.RowKit
attribute [local go_sem ↓] Go.wp_at_zero Go.wp_at_succ

/-- the first one from a place on, or -1 -/
def atG (s : Nat) (f t : ByteArray) (l : List RMsg) : Int := match (l.drop s).findIdx? (isMsg f t) with
  | some i => (s : Int) + (i : Int)
  | none => -1
theorem atG_zero (f t : ByteArray) (l : List RMsg) : atG 0 f t l = atN f t l := by
  unfold atG atN atI
  rw [List.drop_zero]
  cases l.findIdx? (isMsg f t) <;> simp
theorem atG_some {s k : Nat} {f t : ByteArray} {l : List RMsg} (hs : s ≤ k) (hk : k < l.length) (h : isMsg f t l[k] = true) (hb : ∀ j (hj : j < l.length), s ≤ j → j < k → isMsg f t l[j] = false) : atG s f t l = (k : Int) := by
  have : (l.drop s).findIdx? (isMsg f t) = some (k - s) := by
    rw [List.findIdx?_eq_some_iff_getElem]
    refine ⟨by simp; omega, ?_, fun j hj => ?_⟩
    · rw [List.getElem_drop]
      have e : s + (k - s) = k := by omega
      simp only [e]
      exact h
    · rw [List.getElem_drop]
      simp [hb (s + j) (by omega) (by omega) (by omega)]
  rw [atG, this]
  simp only []
  omega
theorem atG_none {s : Nat} {f t : ByteArray} {l : List RMsg} (hb : ∀ j (hj : j < l.length), s ≤ j → isMsg f t l[j] = false) : atG s f t l = -1 := by
  have : (l.drop s).findIdx? (isMsg f t) = none := by
    rw [List.findIdx?_eq_none_iff]
    intro x hx
    obtain ⟨j, hj, rfl⟩ := List.getElem_of_mem hx
    rw [List.getElem_drop]
    exact hb (s + j) _ (by omega)
  rw [atG, this]
set_option maxHeartbeats 1000000 in
theorem s_at {z : Int} {s : Nat} {f t : ByteArray} {l : List RMsg} (hz : atG s f t l = z) (v : Value) (w : World) (h4 : l.length ≤ 4096) (hsl : s ≤ l.length) (hv : RMsgSl w w.heap.size v l) :
    Calls Tryz.prog 55 #[v, .int .i64 (s : Int), .string f, .string t] w fun e w' => e = .returned (.int .i64 z) ∧ Below w.heap.size w w' := by
  have HZ := hide hz
  obtain ⟨ao, cap, rfl, hc, hm, hr⟩ := hv
  have HR := hide hr
  clear hr hz
  go_enter Tryz.func55, Tryz.ntmps55
  go_wp2_with fail
  go_loopw [9] (fun i wr => ∃ k : Nat, s ≤ k ∧ k ≤ l.length ∧ i = .int .i64 k ∧ (∀ j (hj : j < l.length), s ≤ j → j < k → isMsg f t l[j] = false) ∧ Below w.heap.size w wr) (fun i _ => l.length - (intOf i).toNat)
  case atStart => exact ⟨s, Nat.le_refl _, hsl, rfl, fun j _ h1 h2 => absurd h1 (by omega), Below.refl _ _⟩
  case round =>
    obtain ⟨k, hsk, hk, rfl, hall, hbel⟩ := hrel
    have HALL := hide hall
    have HBEL := hide hbel
    clear hall hbel
    by_cases hlt : k < l.length
    · obtain ⟨b, o, rfl, hbB, hrow⟩ := HR.out (by intro h; simp [h] at hlt)
      have hnode := (hrow.get k hlt).carry hbB HBEL.out
      obtain ⟨x1, hx1⟩ : ∃ x1, x1 = l[k] := ⟨_, rfl⟩
      have HX1 := hide hx1
      rw [← hx1] at hnode
      obtain ⟨c0, c1, c2, c3⟩ := hnode
      obtain ⟨p, hp⟩ : ∃ p, (x1.frm.toList == f.toList) = p := ⟨_, rfl⟩
      obtain ⟨q, hq⟩ : ∃ q, (x1.to.toList == t.toList) = q := ⟨_, rfl⟩
      have HI : Hid (isMsg f t x1 = (p && q)) := hide (by rw [isMsg, hp, hq])
      clear hx1 hrow
      cases p
      case' true => cases q
      case true.true =>
        go_wp2_with fail
        go_ret
        exact ⟨ret_int (by rw [← HZ.out]; exact atG_some hsk hlt (by rw [← HX1.out, HI.out]; rfl) HALL.out), HBEL.out⟩
      all_goals
        go_wp2_with fail
        go_roundw
        case rel =>
          refine ⟨k + 1, by omega, by omega, by go_num, fun j hj h1 h2 => ?_, HBEL.out⟩
          by_cases e : j = k
          · subst e; rw [← HX1.out, HI.out]; rfl
          · exact HALL.out j hj h1 (by omega)
        case measure => simp [intOf]; omega
    · go_wp2_with fail
      go_ret
      exact ⟨ret_int (by rw [← HZ.out]; exact atG_none (fun j hj h1 => HALL.out j hj h1 (by omega))), HBEL.out⟩
set_option maxRecDepth 100000 in
set_option maxHeartbeats 1000000 in
theorem s_begin {c : Int} {f t : ByteArray} {l : List RMsg} (hc' : (findW l f t).code = c) (v : Value) (w : World) (hf : f.size ≤ maxLen) (ht : t.size ≤ maxLen) (hok : ∀ m ∈ l, m.ok) (hv : RMsgSl w w.heap.size v l) :
    Calls Tryz.prog 54 #[v, .string f, .string t] w fun e w' => e = .returned (.int .i64 c) ∧ Below w.heap.size w w' := by
  have HOK := hide hok
  have HV := hide hv
  have HF := hide hf
  have HT := hide ht
  obtain ⟨ao, cap, rfl, hc, hm, hr⟩ := hv
  have HC := hide hc'
  obtain ⟨q, hq⟩ : ∃ q, netB l = q := ⟨_, rfl⟩
  obtain ⟨qf, hqf⟩ : ∃ q, nameB f = q := ⟨_, rfl⟩
  obtain ⟨qt, hqt⟩ : ∃ q, nameB t = q := ⟨_, rfl⟩
  have HQ := hide hq
  have HQF := hide hqf
  have HQT := hide hqt
  clear hr hok hc'
  unfold maxLen at hf ht
  by_cases h1 : 400 < l.length ∨ 8000 < f.size ∨ 8000 < t.size
  · have HR : Hid (c = 2) := hide (by
      rw [← HC.out]
      by_cases h2 : 8000 < f.size ∨ 8000 < t.size
      · rw [findW, if_pos h2]; rfl
      · rw [findW, if_neg h2, refuseW, if_pos (by omega)]; rfl)
    by_cases h4 : 400 < l.length
    · clear h1
      go_enter Tryz.func54, Tryz.ntmps54
      go_wp2_with fail
      go_ret
      exact ⟨ret_int HR.out, Below.refl _ _⟩
    · by_cases h8 : 8000 < f.size
      · clear h1
        go_enter Tryz.func54, Tryz.ntmps54
        go_wp2_with fail
        go_ret
        exact ⟨ret_int HR.out, Below.refl _ _⟩
      · have h9 : 8000 < t.size := by omega
        clear h1
        go_enter Tryz.func54, Tryz.ntmps54
        go_wp2_with fail
        go_ret
        exact ⟨ret_int HR.out, Below.refl _ _⟩
  · have h4 : ¬ 400 < l.length := by omega
    have h8 : ¬ 8000 < f.size := by omega
    have h9 : ¬ 8000 < t.size := by omega
    have HR : Hid (c = if (qf && qt) && q then (atW f t l).code else 1) := hide (by
      rw [← HC.out, findW, if_neg (by omega), refuseW, if_neg h4, hqf, hqt, hq]
      cases qf <;> cases qt <;> cases q <;> rfl)
    clear h1 hq hqf hqt
    cases q
    case' true => cases qf
    case' true.true => cases qt
    case true.true.true =>
      obtain ⟨z, hz⟩ : ∃ z, atG 0 f t l = z := ⟨_, rfl⟩
      have HZ := hide hz
      have HZN : Hid ((atW f t l).code = if z < 0 then 6 else 0) := hide (by
        rw [← hz, atG_zero, atW, atN]
        cases atI f t l with
        | none => rfl
        | some k => rw [if_neg (by simp only []; omega)]; rfl)
      have h36 := net_len HQ.out
      clear hz
      by_cases hneg : z < 0
      all_goals
        go_enter Tryz.func54, Tryz.ntmps54
        go_wp2_with (first
          | (go_at_call 23; refine (s_net HQ.out _ _ HOK.out HV.out).mono ?_; rintro e w1 ⟨rfl, hb1⟩; have HB1 := hide hb1; clear hb1)
          | (go_at_call_of 71 f; refine (sn_name HQF.out HF.out _).mono ?_; rintro e w' ⟨rfl, rfl⟩)
          | (go_at_call_of 71 t; refine (sn_name HQT.out HT.out _).mono ?_; rintro e w' ⟨rfl, rfl⟩)
          | (go_at_call 55; refine (s_at (s := 0) HZ.out _ _ (by omega) (Nat.zero_le _) ((HV.out.carry HB1.out).up HB1.out.size)).mono ?_; rintro e w2 ⟨rfl, hb2⟩; have HB2 := hide (HB1.out.trans (hb2.mono HB1.out.size)); clear hb2))
        go_ret
        exact ⟨ret_int (by rw [HR.out, HZN.out]; simp [hneg]), HB2.out⟩
    all_goals
      go_enter Tryz.func54, Tryz.ntmps54
      go_wp2_with (first
        | (go_at_call 23; refine (s_net HQ.out _ _ HOK.out HV.out).mono ?_; rintro e w1 ⟨rfl, hb1⟩; have HB1 := hide hb1; clear hb1)
        | (go_at_call_of 71 f; refine (sn_name HQF.out HF.out _).mono ?_; rintro e w' ⟨rfl, rfl⟩)
        | (go_at_call_of 71 t; refine (sn_name HQT.out HT.out _).mono ?_; rintro e w' ⟨rfl, rfl⟩))
      go_ret
      exact ⟨ret_int (by rw [HR.out]; simp), HB1.out⟩
end Go.Proofs.YtonafcifolddjaaGreatDoor
/- NetSee of the specification: the whole. -/
namespace Go.Proofs.YtonafcifolddjaaGreatDoor
open Go.RowKit
attribute [local go_sem ↓] Go.wp_at_zero Go.wp_at_succ

theorem msgs_len (l : List RMsg) : (l.flatMap RMsg.cells).length = l.length * 4 := by
  induction l with
  | nil => rfl
  | cons x l ih => rw [List.flatMap_cons, List.length_append, ih, List.length_cons, RMsg.cells_len]; omega
theorem msgs_cell {w : World} {b : Nat} : ∀ {l : List RMsg} {o : Nat}, RMsgs w b o l → ∀ j u, (l.flatMap RMsg.cells)[j]? = some u → w.cell? ((⟨b, o, none⟩ : Addr).add j) = some u
  | [], _, _, _, _, hj => by simp at hj
  | x :: l, o, h, j, u, hj => by
    have ea : ∀ (o j : Nat), (⟨b, o, none⟩ : Addr).add j = ⟨b, o + j, none⟩ := fun o j => by unfold Addr.add; split <;> simp_all
    rw [ea]
    rw [List.flatMap_cons] at hj
    by_cases h4 : j < 4
    · rw [List.getElem?_append_left (by rw [RMsg.cells_len]; exact h4)] at hj
      obtain ⟨⟨c0, c1, c2, c3⟩, -⟩ := h
      rcases j with _ | _ | _ | _ | j
      · simp [RMsg.cells] at hj; subst hj; exact c0
      · simp [RMsg.cells] at hj; subst hj; exact c1
      · simp [RMsg.cells] at hj; subst hj; exact c2
      · simp [RMsg.cells] at hj; subst hj; exact c3
      · omega
    · rw [List.getElem?_append_right (by rw [RMsg.cells_len]; omega), RMsg.cells_len] at hj
      have := msgs_cell h.2 (j - 4) u hj
      rw [ea] at this
      rwa [show o + 4 + (j - 4) = o + j by omega] at this
theorem msgs_one (l : List RMsg) : ∀ u ∈ l.flatMap RMsg.cells, u.oneCell' = true := by
  intro u hu
  obtain ⟨x, _, hx⟩ := List.mem_flatMap.1 hu
  exact RMsg.cells_one x u hx
/-- an empty list that is made -/
theorem own_empty (w : World) : (w.alloc (.cells #[] 25)).ownsRow w.heap.size 25 4 (.slice (some ⟨w.heap.size, 0, none⟩) 0 0) 0 [] :=
  ⟨rfl, .inr ⟨w.heap.size, 0, #[], rfl, Nat.le_refl _, mheap_new _ _ _ rfl, Nat.le_refl _, Nat.zero_le _, rfl, rfl⟩⟩
theorem own_grown {w w1 w2 : World} {o : Obj} {n c : Nat} (h : Below (w.heap.size + 1) (w.alloc outZ) w1) (hg : (w1.alloc o).grownBy w2 (Value.slice (some ⟨w1.heap.size, 0, none⟩) n c).ownBlock) : Below (w.heap.size + 1) (w.alloc outZ) w2 := by
  have h1 : Apart w1 w2 ([] ++ vblocks (.slice (some ⟨w1.heap.size, 0, none⟩) n c)) := (below_apart (malloc1 w1 o)).trans (grownBy_apart hg)
  have hs : w.heap.size + 1 ≤ w1.heap.size := by have := h.size; simp at this; exact this
  exact h.trans ((h1.below (Nat.le_refl _) (by simp [vblocks, cellBlocks])).mono hs)
set_option maxRecDepth 100000 in
theorem s_ill (c : Int) (w : World) : Calls Tryz.prog 52 #[.int .i64 c] w fun e w' => NetAns w w' e [] noMsg c := by
  have HI := hide Tryz.infoOut
  go_enter Tryz.func52, Tryz.ntmps52
  go_wp2_with fail
  refine bodyPost_ret_by (results_cell_row rfl _ _ w.heap.size 29 #[.slice none 0 0, .string ByteArray.empty, .string ByteArray.empty, .string ByteArray.empty, .int .i64 0, .int .i64 c] (0, 0) _ rfl ?_ Tryz.underlying29 rfl HI.out) rfl ⟨_, rfl, RMsgOwn.nil _ _, malloc1 _ _⟩
  rw [mheap_new _ _ _ rfl]
  rfl
set_option maxRecDepth 100000 in
set_option maxHeartbeats 1000000 in
theorem s_see (f t : ByteArray) (l : List RMsg) (v : Value) (w : World) (hf : f.size ≤ maxLen) (ht : t.size ≤ maxLen) (hok : ∀ m ∈ l, m.ok) (hv : RMsgSl w w.heap.size v l) :
    Calls Tryz.prog 17 #[v, .string f, .string t] w fun e w' => NetAns w w' e (pickL false l f t) (pickM l f t) (findW l f t).code := by
  have HOK := hide hok
  have HV := hide hv
  have HF := hide hf
  have HT := hide ht
  obtain ⟨ao, cap, rfl, hc, hm, hr⟩ := hv
  have HR := hide hr
  obtain ⟨i0, hi, hz0, hz1, hz2⟩ := info_parts Tryz.infoRMsg
  have HI := hide (And.intro hi (And.intro hz0 (And.intro hz1 hz2)))
  clear hr hok hi hz0 hz1 hz2
  obtain ⟨y, hy⟩ : ∃ y, findW l f t = y := ⟨_, rfl⟩
  have HY := hide hy
  by_cases hyf : y = .normal
  · subst hyf
    obtain ⟨k, hk, hkl, hkn, hnet⟩ := find_fine hy
    obtain ⟨p1, p2⟩ := pick_yes false hy hk
    rw [p1, p2, hy]
    have h36 := net_len hnet
    obtain ⟨b, o, rfl, hbB, hrow⟩ := HR.out (by intro h; simp [h] at hkl)
    have hnode := hrow.get k hkl
    have HRW : Hid (∀ W, Below w.heap.size w W → RMsgs W b o l) := hide (fun W hb => hrow.carry hbB hb)
    have HND : Hid (∀ W, Below w.heap.size w W → RMsgAt W b (o + k * 4) l[k]) := hide (fun W hb => hnode.carry hbB hb)
    have HX : Hid (l.getD k noMsg = l[k]) := hide (by rw [List.getD_eq_getElem?_getD, List.getElem?_eq_getElem hkl]; rfl)
    have HAT : Hid (atG 0 f t l = (k : Int)) := hide (by rw [atG_zero, atN, hk])
    rw [HX.out]
    obtain ⟨x1, hx1⟩ : ∃ x1, x1 = l[k] := ⟨_, rfl⟩
    rw [← hx1] at HND ⊢
    clear hx1 hnode hrow hnet p1 p2 hk HX hkn hy
    go_enter Tryz.func17, Tryz.ntmps17
    go_wp2_with (first
      | (go_at_call 54; refine (s_begin (c := 0) (by rw [HY.out]; rfl) _ _ HF.out HT.out HOK.out ((HV.out.carry (malloc1 _ _)).up (malloc1 _ _).size)).mono ?_; rintro e w1 ⟨rfl, hb1⟩; have HB1 : Hid (Below (w.heap.size + 1) (w.alloc outZ) w1) := hide (by have := hb1; simpa [outZ] using this); have HBW := hide (out_cells HB1.out).2.2; clear hb1)
      | (at_builtin; refine wpList_append_own _ rfl (.tmp 16) (.tmp 17) 23 rfl w1.heap.size 25 i0 (.agg #[.string ByteArray.empty, .string ByteArray.empty, .string ByteArray.empty, .int .i64 0]) 4 56 Tryz.underlying23 HI.out.1 HI.out.2.1 HI.out.2.2.1 HI.out.2.2.2 rfl (by decide) (.slice (some ⟨w1.heap.size, 0, none⟩) 0 0) 0 [] rfl (own_empty w1) ⟨b, o, none⟩ l.length cap (l.flatMap RMsg.cells) rfl (msgs_len l) (fun j u hj => msgs_cell (HRW.out _ (HBW.out.trans ((malloc1 _ _).mono HBW.out.size))) j u hj) (msgs_one l) (by unfold maxLen; omega) (by omega) (by simp) ?_; intro v2 w2 hown2 hgr2 _; have HB2 : Hid (Below (w.heap.size + 1) (w.alloc outZ) w2) := hide (own_grown HB1.out hgr2); have HO2 : Hid (RMsgOwn w2 w1.heap.size v2 l) := hide (by have := hown2; simpa [RMsgOwn] using this); obtain ⟨pa, pc, rfl⟩ := owns_shape HO2.out; have HBW2 := hide (out_cells HB2.out).2.2; clear hown2 hgr2)
      | (go_at_call 55; refine (s_at (s := 0) HAT.out _ _ (by omega) (Nat.zero_le _) ((HV.out.carry HBW2.out).up HBW2.out.size)).mono ?_; rintro e w3 ⟨rfl, hb3⟩; have HB3 : Hid (Below (w.heap.size + 1) (w.alloc outZ) w3) := hide (HB2.out.trans (hb3.mono (by have := HB2.out.size; simp at this; exact this))); have HO3 := hide (HO2.out.below hb3); obtain ⟨⟨e0, e1, e2, e3, e4, e5⟩, ez, hbw3⟩ := out_cells HB3.out; have z0 := ez 0; have z1 := ez 1; have z2 := ez 2; have z3 := ez 3; have z4 := ez 4; have z5 := ez 5; obtain ⟨d0, d1, d2, d3⟩ := HND.out _ hbw3; clear hb3 ez hbw3))
    obtain ⟨W4, hW4⟩ : ∃ W4, W4 = ((((((w3.setCell ⟨w.heap.size, 0, none⟩ (.slice pa l.length pc)).setCell ⟨w.heap.size, 1, none⟩ (.string x1.frm)).setCell ⟨w.heap.size, 2, none⟩ (.string x1.to)).setCell ⟨w.heap.size, 3, none⟩ (.string x1.label)).setCell ⟨w.heap.size, 4, none⟩ (.int .i64 x1.sort)).setCell ⟨w.heap.size, 5, none⟩ (.int .i64 0)) := ⟨_, rfl⟩
    rw [← hW4]
    have hE := ans_end (m := x1) (c := 0) HB3.out (show w.heap.size < w1.heap.size by have := HB1.out.size; simp at this; omega) HO3.out hW4
    obtain ⟨⟨r0, r1, r2, r3, r4, r5⟩, hE1, hE2⟩ := hE
    clear hW4 e0 e1 e2 e3 e4 e5 z0 z1 z2 z3 z4 z5 d0 d1 d2 d3
    refine bodyPost_ret_by (v := netV (.slice pa l.length pc) x1 0) ?_ rfl ⟨_, rfl, hE1, hE2⟩
    unfold netV
    unfold results
    go_simp
  · obtain ⟨p1, p2⟩ := pick_no false (show findW l f t ≠ .normal by rw [hy]; exact hyf)
    rw [p1, p2, hy]
    obtain ⟨cd, hcd⟩ : ∃ cd, y.code = cd := ⟨_, rfl⟩
    have HCD : Hid ((findW l f t).code = cd) := hide (by rw [hy]; exact hcd)
    rw [hcd]
    have hcn : ¬ cd = 0 := by rw [← hcd]; cases y <;> first | exact absurd rfl hyf | decide
    clear p1 p2 hcd hy hyf
    go_enter Tryz.func17, Tryz.ntmps17
    go_wp2_with (first
      | (go_at_call 54; refine (s_begin HCD.out _ _ HF.out HT.out HOK.out ((HV.out.carry (malloc1 _ _)).up (malloc1 _ _).size)).mono ?_; rintro e w1 ⟨rfl, hb1⟩; have HB1 : Hid (Below (w.heap.size + 1) (w.alloc outZ) w1) := hide (by have := hb1; simpa [outZ] using this); clear hb1)
      | (go_at_call 52; refine (s_ill cd w1).mono ?_; rintro e w2 ⟨v2, rfl, ho2, hb2⟩; have HB2 : Hid (Below (w.heap.size + 1) (w.alloc outZ) w2) := hide (HB1.out.trans (hb2.mono (by have := HB1.out.size; simp at this; exact this))); have HO2 := hide ho2; obtain ⟨pa, pc, rfl⟩ := owns_shape ho2; obtain ⟨⟨e0, e1, e2, e3, e4, e5⟩, ez, -⟩ := out_cells HB2.out; have z0 := ez 0; have z1 := ez 1; have z2 := ez 2; have z3 := ez 3; have z4 := ez 4; have z5 := ez 5; clear hb2 ez ho2; unfold netV noMsg))
    obtain ⟨W4, hW4⟩ : ∃ W4, W4 = ((((((w2.setCell ⟨w.heap.size, 0, none⟩ (.slice pa 0 pc)).setCell ⟨w.heap.size, 1, none⟩ (.string ByteArray.empty)).setCell ⟨w.heap.size, 2, none⟩ (.string ByteArray.empty)).setCell ⟨w.heap.size, 3, none⟩ (.string ByteArray.empty)).setCell ⟨w.heap.size, 4, none⟩ (.int .i64 0)).setCell ⟨w.heap.size, 5, none⟩ (.int .i64 cd)) := ⟨_, rfl⟩
    rw [← hW4]
    have hE := ans_end (m := noMsg) (c := cd) HB2.out (show w.heap.size < w1.heap.size by have := HB1.out.size; simp at this; omega) HO2.out hW4
    obtain ⟨⟨r0, r1, r2, r3, r4, r5⟩, hE1, hE2⟩ := hE
    clear hW4 e0 e1 e2 e3 e4 e5 z0 z1 z2 z3 z4 z5
    refine bodyPost_ret_by (v := netV (.slice pa 0 pc) noMsg cd) ?_ rfl ⟨_, rfl, hE1, hE2⟩
    unfold netV noMsg
    unfold noMsg at r1 r2 r3 r4
    simp only [List.length_nil] at r0 r1 r2 r3 r4
    unfold results
    go_simp
end Go.Proofs.YtonafcifolddjaaGreatDoor
