/- swapped: two messages change places. -/
import Derived.Test.YtonafcifolddjaaGreatDoorQB28
import Derived.Lib.SliceRun
namespace Go.Proofs.YtonafcifolddjaaGreatDoor
open Go.RowKit
attribute [local go_sem ↓] Go.wp_at_zero Go.wp_at_succ

/-- one's own memory, whatever it holds -/
structure OwnS (w : World) (lo : Nat) (v : Value) (l : List RMsg) : Prop where
  sl : RMsgSl w w.heap.size v l
  fresh : Fresh lo w v
theorem RMsgOwn.own {w : World} {lo : Nat} {v : Value} {l : List RMsg} (h : RMsgOwn w lo v l) (hl : l.length ≤ 4294967296) : OwnS w lo v l := ⟨h.sl hl, h.fresh⟩
theorem OwnS.below {w w' : World} {lo : Nat} {v : Value} {l : List RMsg} (h : OwnS w lo v l) (hb : Below w.heap.size w w') : OwnS w' lo v l :=
  ⟨(h.sl.carry hb).up hb.size, h.fresh.keep (below_apart hb) (fun _ _ => by simp)⟩
theorem OwnS.keep {w w' : World} {lo : Nat} {v : Value} {l : List RMsg} {k : List Nat} (h : OwnS w lo v l) (ha : Apart w w' k) (hd : ∀ b ∈ vblocks v, b ∉ k) : OwnS w' lo v l := by
  refine ⟨?_, h.fresh.keep ha hd⟩
  obtain ⟨p, c, rfl⟩ := h.sl.shape
  exact h.sl.keep ha.size (fun b hb hlt => ha.block b hlt (hd b ((own_blocks rfl).1 hb)))
theorem OwnS.mono {w : World} {lo lo' : Nat} {v : Value} {l : List RMsg} (h : OwnS w lo v l) (hl : lo' ≤ lo) : OwnS w lo' v l :=
  ⟨h.sl, ⟨fun b hb => Nat.le_trans hl (h.fresh.lo b hb), h.fresh.hi, h.fresh.free, h.fresh.nodup⟩⟩
theorem msgs_set {w : World} {b o : Nat} {l : List RMsg} (k : Nat) (x : RMsg) (h : RMsgs w b o l) (hk : k < l.length) : RMsgs (putMsg w b (o + k * 4) x) b o (l.set k x) := by
  refine RMsgs.of _ _ _ _ (fun j hj => ?_)
  have hj' : j < l.length := by simpa using hj
  by_cases e : k = j
  · subst e
    rw [List.getElem_set_self]
    refine putMsg_at _ _ _ _ (fun i hi => ?_)
    obtain ⟨c0, c1, c2, c3⟩ := h.get k hk
    rcases i with _ | _ | _ | _ | i
    · exact ⟨_, c0⟩
    · exact ⟨_, c1⟩
    · exact ⟨_, c2⟩
    · exact ⟨_, c3⟩
    · omega
  · rw [List.getElem_set_ne e]
    obtain ⟨c0, c1, c2, c3⟩ := h.get j hj'
    have hh : ∀ i, i < 4 → (putMsg w b (o + k * 4) x).cell? ⟨b, o + j * 4 + i, none⟩ = w.cell? ⟨b, o + j * 4 + i, none⟩ := fun i hi => putMsg_other _ _ _ _ _ (fun q hq he => by injection he with h1 h2; omega)
    exact ⟨(hh 0 (by omega)).trans c0, (hh 1 (by omega)).trans c1, (hh 2 (by omega)).trans c2, (hh 3 (by omega)).trans c3⟩
theorem OwnS.set {w : World} {lo g c : Nat} {l : List RMsg} (k : Nat) (x : RMsg) (h : OwnS w lo (.slice (some ⟨g, 0, none⟩) l.length c) l) (hk : k < l.length) : OwnS (putMsg w g (k * 4) x) lo (.slice (some ⟨g, 0, none⟩) l.length c) (l.set k x) := by
  obtain ⟨a1, c1, e1, h1, h2, h3⟩ := h.sl
  injection e1 with e1 e2 e3
  obtain ⟨b1, o1, e4, hlt, hrow⟩ := h3 (by intro e; rw [e] at hk; simp at hk)
  rw [← e1] at e4
  injection e4 with e4
  injection e4 with e4 e5
  subst e4 e5 e3
  have hr := msgs_set k x hrow hk
  rw [Nat.zero_add] at hr
  refine ⟨⟨some ⟨g, 0, none⟩, c, by rw [List.length_set], by simpa using h1, by simpa using h2, fun _ => ⟨g, 0, rfl, by rw [putMsg_size]; exact hlt, hr⟩⟩, ⟨h.fresh.lo, fun b hb => by rw [putMsg_size]; exact h.fresh.hi b hb, fun b hb j => by rw [putMsg_frozen]; exact h.fresh.free b hb j, h.fresh.nodup⟩⟩
theorem OwnS.set' {w : World} {lo g c n : Nat} {l : List RMsg} (k : Nat) (x : RMsg) (hn : l.length = n) (h : OwnS w lo (.slice (some ⟨g, 0, none⟩) n c) l) (hk : k < n) : OwnS (putMsg w g (k * 4) x) lo (.slice (some ⟨g, 0, none⟩) n c) (l.set k x) := by
  subst hn
  exact h.set k x hk
theorem OwnS.swap {w : World} {lo g c n k j : Nat} {l : List RMsg} (x y : RMsg) (hn : l.length = n) (h : OwnS w lo (.slice (some ⟨g, 0, none⟩) n c) l) (hk : k < n) (hj : j < n) : OwnS (putMsg (putMsg w g (k * 4) x) g (j * 4) y) lo (.slice (some ⟨g, 0, none⟩) n c) ((l.set k x).set j y) :=
  (h.set' k x hn hk).set' j y (by rw [List.length_set]; exact hn) hj
theorem swap_below {B : Nat} {a w : World} (h : Below B a w) {g : Nat} (hg : B ≤ g) (p q : Nat) (x y : RMsg) : Below B a (putMsg (putMsg w g p x) g q y) := putMsg_below (putMsg_below h hg p x) hg q y
theorem own_addr {w : World} {lo n : Nat} {v : Value} {l : List RMsg} (h : RMsgOwn w lo v l) (hl : l.length = n) (hn : 0 < n) : ∃ g c, v = .slice (some ⟨g, 0, none⟩) n c ∧ lo ≤ g ∧ g < w.heap.size ∧ l.length ≤ c := by
  subst hl
  obtain ⟨_, hh⟩ := h
  rcases hh with ⟨rfl, h0⟩ | ⟨g, cap, cur, rfl, h1, hblk, h2, _⟩
  · omega
  · exact ⟨g, cap, rfl, h1, (Array.getElem?_eq_some_iff.1 hblk).1, h2⟩
def swapL (l : List RMsg) (k j : Nat) : List RMsg := (l.set k (l.getD j noMsg)).set j (l.getD k noMsg)
set_option maxRecDepth 100000 in
set_option maxHeartbeats 1000000 in
theorem i_clone (l : List RMsg) (b o cap : Nat) (w : World) (h4 : l.length ≤ 4096) (hv : RMsgs w b o l) (hb : b < w.heap.size) :
    Calls Tryz.prog 76 #[.slice (some ⟨b, o, none⟩) l.length cap] w fun e w' => ∃ v', e = .returned v' ∧ RMsgOwn w' w.heap.size v' l ∧ Below w.heap.size w w' := by
  have HV : Hid (∀ W, Below w.heap.size w W → RMsgs W b o l) := hide (fun W h => hv.carry hb h)
  obtain ⟨i0, hi, hz0, hz1, hz2⟩ := info_parts Tryz.infoRMsg
  have HI := hide (And.intro hi (And.intro hz0 (And.intro hz1 hz2)))
  clear hv hi hz0 hz1 hz2
  have heq := Go.Lib.run_eql_slice_nil (P := Tryz.prog) w 23 25 (some ⟨b, o, none⟩) l.length cap 0 0 Tryz.underlying23
  go_enter Tryz.func76, Tryz.ntmps76
  go_wp2_with (at_builtin; refine wpList_append_own _ rfl (.tmp 5) (.tmp 6) 23 rfl w.heap.size 25 i0 (.agg #[.string ByteArray.empty, .string ByteArray.empty, .string ByteArray.empty, .int .i64 0]) 4 56 Tryz.underlying23 HI.out.1 HI.out.2.1 HI.out.2.2.1 HI.out.2.2.2 rfl (by decide) (.slice (some ⟨w.heap.size, 0, none⟩) 0 0) 0 [] rfl (own_empty w) ⟨b, o, none⟩ l.length cap (l.flatMap RMsg.cells) rfl (msgs_len l) (fun j u hj => msgs_cell (HV.out _ (malloc1 _ _)) j u hj) (msgs_one l) (by unfold maxLen; omega) (by omega) (by simp) ?_; intro v2 w2 hown2 hgr2 _; have HB2 : Hid (Below w.heap.size w w2) := hide (own_grown' hgr2); have HO2 : Hid (RMsgOwn w2 w.heap.size v2 l) := hide (by have := hown2; simpa [RMsgOwn] using this); clear hown2 hgr2)
  go_ret
  exact ⟨_, rfl, HO2.out, HB2.out⟩
theorem first_at {E : Errs} {f t : ByteArray} {l : List RMsg} {n : Int} {y : Why} (h1 : atN f t l = n) (h2 : atW f t l = y) (v : Value) (w : World) (h4 : (l.length : Nat) ≤ 4096) (hv : RMsgSl w w.heap.size v l) (hs : SentAt w E) :
    Calls Tryz.prog 74 #[v, .agg #[.string f, .string t], .func (.func 67) #[] #[]] w fun e w' => e = .returned (.tuple #[.int .i64 n, whyV E y]) ∧ Below w.heap.size w w' := by subst h1 h2; exact first_of f t l v w h4 hv hs
def swapW (l : List RMsg) (k : Nat) : Why := match atI (l.getD k noMsg).frm (l.getD k noMsg).to (l.drop (k + 1)) with
  | some _ => .normal
  | none => .deferred
def swapR (l : List RMsg) (k : Nat) : List RMsg := match atI (l.getD k noMsg).frm (l.getD k noMsg).to (l.drop (k + 1)) with
  | some i => swapL l k (k + 1 + i)
  | none => []
theorem swapL_len (l : List RMsg) (k j : Nat) : (swapL l k j).length = l.length := by simp [swapL]
set_option maxRecDepth 100000 in
set_option maxHeartbeats 1000000 in
theorem i_swapped {E : Errs} (l : List RMsg) (k b o cap : Nat) (w : World) (hk : k < l.length) (h4 : l.length ≤ 4096) (hv : RMsgSl w w.heap.size (.slice (some ⟨b, o, none⟩) l.length cap) l) (hs : SentAt w E) :
    Calls Tryz.prog 42 #[.slice (some ⟨b, o, none⟩) l.length cap, .int .i64 (k : Int)] w fun e w' => ∃ v', e = .returned (.tuple #[v', whyV E (swapW l k)]) ∧ (if swapW l k matches .normal then RMsgSl w' w'.heap.size v' (swapR l k) else v' = .slice none 0 0) ∧ Below w.heap.size w w' := by
  have HS := hide hs
  obtain ⟨a1, c1, e1, hc, hm, h3⟩ := hv
  injection e1 with e1 e2 e3
  obtain ⟨b1, o1, e4, hbB, hrow⟩ := h3 (by intro e; rw [e] at hk; simp at hk)
  rw [← e1] at e4
  injection e4 with e4
  injection e4 with e4 e5
  subst e4 e5 e3
  have HROW : Hid (∀ W, Below w.heap.size w W → RMsgs W b o l) := hide (fun W h => hrow.carry hbB h)
  have hnode := hrow.get k hk
  have HX : Hid (l.getD k noMsg = l[k]) := hide (by rw [List.getD_eq_getElem?_getD, List.getElem?_eq_getElem hk]; rfl)
  obtain ⟨x1, hx1⟩ : ∃ x1, x1 = l[k] := ⟨_, rfl⟩
  rw [← hx1] at hnode HX
  have HXX := hide hx1
  have HND : Hid (∀ W, Below w.heap.size w W → RMsgAt W b (o + k * 4) x1) := hide (fun W h => hnode.carry hbB h)
  clear e1 e2
  have HD4 : Hid ((l.drop (k + 1)).length ≤ 4096) := hide (by rw [List.length_drop]; omega)
  clear hx1 hnode hrow hs h3
  unfold swapW swapR
  rw [HX.out]
  obtain ⟨c0, d1, d2, d3⟩ := HND.out _ (Below.refl _ _)
  have hk1 : k + 1 ≤ l.length := hk
  have hk2 : (k : Int) + 1 ≤ (l.length : Int) := by omega
  have hk3 : k + 1 ≤ cap := by omega
  obtain ⟨n1, hn1⟩ : ∃ n1, l.length - (k + 1) = n1 := ⟨_, rfl⟩
  have HDL : Hid ((l.drop (k + 1)).length = n1) := hide (by rw [List.length_drop, hn1])
  by_cases hcap : cap = k + 1
  · subst hcap
    obtain rfl : n1 = 0 := by omega
    have HDN : Hid (l.drop (k + 1) = []) := hide (List.drop_eq_nil_of_le (by omega))
    have hr : atI x1.frm x1.to (l.drop (k + 1)) = none := by rw [HDN.out]; rfl
    have HDR : Hid (∀ W, Below w.heap.size w W → RMsgSl W W.heap.size (.slice (some ⟨b, o, none⟩) 0 0) (l.drop (k + 1))) := hide (fun W h => by rw [HDN.out]; exact ⟨_, _, rfl, Nat.le_refl _, by simp, fun h => absurd rfl h⟩)
    have HAN : Hid (atN x1.frm x1.to (l.drop (k + 1)) = -1 ∧ atW x1.frm x1.to (l.drop (k + 1)) = .deferred) := hide ⟨by rw [atN, hr], by rw [atW, hr]⟩
    rw [hr]
    clear hr
    go_enter Tryz.func42, Tryz.ntmps42
    go_wp2_with fail
    refine wp_region_grown (by kernel_rfl) (by kernel_rfl) (fun W hW => ?_)
    have hne := grown_some W
    have f0 := grown_cell (w := W) (by rw [hW]; exact c0)
    have f1 := grown_cell (w := W) (by rw [hW]; exact d1)
    have f2 := grown_cell (w := W) (by rw [hW]; exact d2)
    have f3 := grown_cell (w := W) (by rw [hW]; exact d3)
    have HBW0 : Below w.heap.size w W := by rw [hW]; exact Below.refl _ _
    have HBG : Hid (∀ g : Grown W, Below w.heap.size w g.val) := hide (fun g => HBW0.trans (g.bel.mono HBW0.size))
    have HWE := hide hW
    clear hW HBW0
    repeat (go_big_quiet_step (first
      | (go_at_call 67; exact grown_more (ends_of x1 _))
      | (go_at_call 74; exact grown_more (first_at HAN.out.1 HAN.out.2 _ _ HD4.out (HDR.out _ (HBG.out _)) (HS.out.carry (HBG.out _))))))
    refine wpQuiet_nil ?_
    intro w2 hw2
    rw [show whyV E .deferred = Value.iface 136 (.pointer (some E.aN)) from rfl]
    have HB2 : Hid (Below w.heap.size w w2) := hide (by rw [HWE.out] at hw2; exact hw2)
    clear hw2 hne f0 f1 f2 f3 HBG HWE c0 d1 d2 d3
    all_goals
      go_wp2_with fail
      refine bodyPost_ret_by (v := .tuple #[.slice none 0 0, .iface 136 (.pointer (some E.aN))]) ?_ rfl ⟨_, rfl, rfl, HB2.out⟩
      unfold results
      go_simp
  · obtain ⟨c2, hc2⟩ : ∃ c2, cap - (k + 1) = c2 := ⟨_, rfl⟩
    have HDR : Hid (∀ W, Below w.heap.size w W → RMsgSl W W.heap.size (.slice (some ⟨b, o + (k + 1) * 4, none⟩) n1 c2) (l.drop (k + 1))) := hide (fun W h =>
      ⟨_, c2, by rw [HDL.out], by rw [HDL.out]; omega, by rw [HDL.out]; omega, fun _ => ⟨b, o + (k + 1) * 4, rfl, Nat.lt_of_lt_of_le hbB h.size, (HROW.out W h).drop (k + 1)⟩⟩)
    cases hr : atI x1.frm x1.to (l.drop (k + 1)) with
    | none =>
      have HAN : Hid (atN x1.frm x1.to (l.drop (k + 1)) = -1 ∧ atW x1.frm x1.to (l.drop (k + 1)) = .deferred) := hide ⟨by rw [atN, hr], by rw [atW, hr]⟩
      clear hr
      go_enter Tryz.func42, Tryz.ntmps42
      go_wp2_with fail
      refine wp_region_grown (by kernel_rfl) (by kernel_rfl) (fun W hW => ?_)
      have hne := grown_some W
      have f0 := grown_cell (w := W) (by rw [hW]; exact c0)
      have f1 := grown_cell (w := W) (by rw [hW]; exact d1)
      have f2 := grown_cell (w := W) (by rw [hW]; exact d2)
      have f3 := grown_cell (w := W) (by rw [hW]; exact d3)
      have HBW0 : Below w.heap.size w W := by rw [hW]; exact Below.refl _ _
      have HBG : Hid (∀ g : Grown W, Below w.heap.size w g.val) := hide (fun g => HBW0.trans (g.bel.mono HBW0.size))
      have HWE := hide hW
      clear hW HBW0
      repeat (go_big_quiet_step (first
        | (go_at_call 67; exact grown_more (ends_of x1 _))
        | (go_at_call 74; exact grown_more (first_at HAN.out.1 HAN.out.2 _ _ HD4.out (HDR.out _ (HBG.out _)) (HS.out.carry (HBG.out _))))))
      refine wpQuiet_nil ?_
      intro w2 hw2
      rw [show whyV E .deferred = Value.iface 136 (.pointer (some E.aN)) from rfl]
      have HB2 : Hid (Below w.heap.size w w2) := hide (by rw [HWE.out] at hw2; exact hw2)
      clear hw2 hne f0 f1 f2 f3 HBG HWE c0 d1 d2 d3
      all_goals
        go_wp2_with fail
        refine bodyPost_ret_by (v := .tuple #[.slice none 0 0, .iface 136 (.pointer (some E.aN))]) ?_ rfl ⟨_, rfl, rfl, HB2.out⟩
        unfold results
        go_simp
    | some i =>
      have hil : i < (l.drop (k + 1)).length := atI_lt hr
      have hjl : k + 1 + i < l.length := by rw [List.length_drop] at hil; omega
      have HAN : Hid (atN x1.frm x1.to (l.drop (k + 1)) = (i : Int) ∧ atW x1.frm x1.to (l.drop (k + 1)) = .normal) := hide ⟨by rw [atN, hr], by rw [atW, hr]⟩
      clear hr hil
      go_enter Tryz.func42, Tryz.ntmps42
      go_wp2_with fail
      refine wp_region_grown (by kernel_rfl) (by kernel_rfl) (fun W hW => ?_)
      have hne := grown_some W
      have f0 := grown_cell (w := W) (by rw [hW]; exact c0)
      have f1 := grown_cell (w := W) (by rw [hW]; exact d1)
      have f2 := grown_cell (w := W) (by rw [hW]; exact d2)
      have f3 := grown_cell (w := W) (by rw [hW]; exact d3)
      have HBW0 : Below w.heap.size w W := by rw [hW]; exact Below.refl _ _
      have HBG : Hid (∀ g : Grown W, Below w.heap.size w g.val) := hide (fun g => HBW0.trans (g.bel.mono HBW0.size))
      have HWE := hide hW
      clear hW HBW0
      repeat (go_big_quiet_step (first
        | (go_at_call 67; exact grown_more (ends_of x1 _))
        | (go_at_call 74; exact grown_more (first_at HAN.out.1 HAN.out.2 _ _ HD4.out (HDR.out _ (HBG.out _)) (HS.out.carry (HBG.out _))))))
      refine wpQuiet_nil ?_
      intro w2 hw2
      rw [show whyV E .normal = Value.nilIface from rfl]
      have HB2 : Hid (Below w.heap.size w w2) := hide (by rw [HWE.out] at hw2; exact hw2)
      clear hw2 hne f0 f1 f2 f3 HBG HWE c0 d1 d2 d3
      all_goals
        go_wp2_with (go_at_call 76; refine (i_clone l b o cap w2 h4 (HROW.out _ HB2.out) (Nat.lt_of_lt_of_le hbB HB2.out.size)).mono ?_; rintro e w3 ⟨v3, rfl, ho3, hb3⟩; have HB3 : Hid (Below w.heap.size w w3) := hide (HB2.out.trans (hb3.mono HB2.out.size)); have HO3 := hide (ho3.own (by omega)); obtain ⟨g3, c3, rfl, hg3, hg3', hg3c⟩ := own_addr ho3 rfl (by omega); clear ho3 hb3)
        obtain ⟨j, hj⟩ : ∃ j, k + 1 + i = j := ⟨_, rfl⟩
        have hji : (k : Int) + 1 + (i : Int) = (j : Int) := by omega
        have hjl' : j < l.length := by omega
        rw [hji]
        have hRW := HROW.out _ HB3.out
        obtain ⟨s0, s1, s2, s3⟩ := hRW.get k hk
        obtain ⟨t0, t1, t2, t3⟩ := hRW.get j hjl'
        have HGR : Hid (RMsgs w3 g3 0 l) := hide (by
          obtain ⟨a1, c1, e1, h1, h2, h3⟩ := HO3.out.sl
          injection e1 with e1
          obtain ⟨b1, o1, e4, -, hrow⟩ := h3 (by intro e; rw [e] at hk; simp at hk)
          rw [← e1] at e4
          injection e4 with e4
          injection e4 with e4 e5
          subst e4 e5
          exact hrow)
        obtain ⟨q0, q1, q2, q3⟩ := HGR.out.get k hk
        obtain ⟨r0, r1, r2, r3⟩ := HGR.out.get j hjl'
        simp only [Nat.zero_add] at q0 q1 q2 q3 r0 r1 r2 r3
        have hfz : ∀ o, w3.frozen? ⟨g3, o, none⟩ = false := fun o => HO3.out.fresh.free g3 (by simp [vblocks, cellBlocks]) o
        have z0 := hfz (k * 4)
        have z1 := hfz (k * 4 + 1)
        have z2 := hfz (k * 4 + 2)
        have z3 := hfz (k * 4 + 3)
        have y0 := hfz (j * 4)
        have y1 := hfz (j * 4 + 1)
        have y2 := hfz (j * 4 + 2)
        have y3 := hfz (j * 4 + 3)
        obtain ⟨x2, hx2⟩ : ∃ x2, x2 = l[j] := ⟨_, rfl⟩
        rw [← hx2] at t0 t1 t2 t3 r0 r1 r2 r3
        have HX2 : Hid (l.getD j noMsg = x2) := hide (by rw [List.getD_eq_getElem?_getD, List.getElem?_eq_getElem hjl', hx2]; rfl)
        have hxx : x1 = l[k] := HXX.out
        rw [← hxx] at s0 s1 s2 s3 q0 q1 q2 q3
        clear hfz hx2 hxx hRW
        have HSW : Hid (OwnS (putMsg (putMsg w3 g3 (k * 4) x2) g3 (j * 4) x1) w2.heap.size (.slice (some ⟨g3, 0, none⟩) l.length c3) (swapL l k j)) := hide (by
          have := OwnS.swap (k := k) (j := j) x2 x1 rfl HO3.out hk hjl'
          rw [swapL, HX2.out, HX.out]
          exact this)
        have HBS : Hid (Below w.heap.size w (putMsg (putMsg w3 g3 (k * 4) x2) g3 (j * 4) x1)) := hide (swap_below HB3.out (Nat.le_trans HB2.out.size hg3) _ _ _ _)
        go_region_with fail
        all_goals
          obtain ⟨W5, hW5⟩ : ∃ W5, W5 = putMsg (putMsg w3 g3 (k * 4) x2) g3 (j * 4) x1 := ⟨_, rfl⟩
          rw [← hW5] at HSW HBS
          have hgo : W5 = ((((((((w3.setCell ⟨g3, k * 4, none⟩ (.string x2.frm)).setCell ⟨g3, k * 4 + 1, none⟩ (.string x2.to)).setCell ⟨g3, k * 4 + 2, none⟩ (.string x2.label)).setCell ⟨g3, k * 4 + 3, none⟩ (.int .i64 x2.sort)).setCell ⟨g3, j * 4, none⟩ (.string x1.frm)).setCell ⟨g3, j * 4 + 1, none⟩ (.string x1.to)).setCell ⟨g3, j * 4 + 2, none⟩ (.string x1.label)).setCell ⟨g3, j * 4 + 3, none⟩ (.int .i64 x1.sort)) := hW5
          rw [← hgo]
          clear hW5 hgo s0 s1 s2 s3 t0 t1 t2 t3 q0 q1 q2 q3 r0 r1 r2 r3 z0 z1 z2 z3 y0 y1 y2 y3
          go_wp2_with fail
          refine bodyPost_ret_by (v := .tuple #[.slice (some ⟨g3, 0, none⟩) l.length c3, .nilIface]) ?_ rfl ⟨_, rfl, ?_, HBS.out.drew⟩
          · unfold results
            go_simp
          · exact (HSW.out.below (Below.refl _ _).drew).sl
end Go.Proofs.YtonafcifolddjaaGreatDoor
