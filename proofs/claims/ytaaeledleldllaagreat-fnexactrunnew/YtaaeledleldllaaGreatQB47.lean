import Derived.Test.YtaaeledleldllaaGreatQB22
import Derived.Test.YtaaeledleldllaaGreatQB40
import Derived.Test.YtaaeledleldllaaGreatQB08
import Derived.Test.YtaaeledleldllaaGreatQB25
import Derived.Test.YtaaeledleldllaaGreatQB46
import Derived.Test.YtaaeledleldllaaGreatQB45
import Derived.Test.YtaaeledleldllaaGreatQB39
import Derived.Test.YtaaeledleldllaaGreatQB21
namespace Go.Proofs.YtaaeledleldllaaGreat
open Go.RowKit

structure Rn where
  plan : List Nd
  states : List Int
  net : List RMsg
  steps : Int
def Rn.fit (r : Rn) : Prop := (r.plan.length ≤ 1048576 ∧ ∀ n ∈ r.plan, n.fit) ∧ r.states.length ≤ 1048576 ∧ (r.net.length ≤ 1048576 ∧ ∀ m ∈ r.net, m.fit)
structure RnArg (w : World) (pa : Option Addr) (pc : Nat) (sa : Option Addr) (sc : Nat) (na : Option Addr) (nc : Nat) (r : Rn) : Prop where
  ok : ∀ n ∈ r.plan, n.ok
  pl : r.plan.length ≤ maxLen
  pr : r.plan ≠ [] → ∃ b o, pa = some ⟨b, o, none⟩ ∧ b < w.heap.size ∧ RowAt w b o r.plan
  sl : r.states.length ≤ maxLen
  sr : r.states ≠ [] → ∃ b o, sa = some ⟨b, o, none⟩ ∧ b < w.heap.size ∧ Nums w b o r.states
  nok : ∀ m ∈ r.net, m.ok
  nl : r.net.length ≤ maxLen
  nr : r.net ≠ [] → ∃ b o, na = some ⟨b, o, none⟩ ∧ b < w.heap.size ∧ RMsgs w b o r.net
  zs : ∀ z ∈ r.states, -9223372036854775808 ≤ z ∧ z ≤ 9223372036854775807
  zt : -9223372036854775808 ≤ r.steps ∧ r.steps ≤ 9223372036854775807
theorem RnArg.carry {w w' : World} {pa : Option Addr} {pc : Nat} {sa : Option Addr} {sc : Nat} {na : Option Addr} {nc : Nat} {r : Rn} (h : RnArg w pa pc sa sc na nc r) (hb : Below w.heap.size w w') : RnArg w' pa pc sa sc na nc r := by
  refine ⟨h.ok, h.pl, fun hne => ?_, h.sl, fun hne => ?_, h.nok, h.nl, fun hne => ?_, h.zs, h.zt⟩
  · obtain ⟨b, o, e, hlt, hr⟩ := h.pr hne
    exact ⟨b, o, e, Nat.lt_of_lt_of_le hlt hb.size, hr.carry hlt hb⟩
  · obtain ⟨b, o, e, hlt, hr⟩ := h.sr hne
    exact ⟨b, o, e, Nat.lt_of_lt_of_le hlt hb.size, hr.carry hlt hb⟩
  · obtain ⟨b, o, e, hlt, hr⟩ := h.nr hne
    exact ⟨b, o, e, Nat.lt_of_lt_of_le hlt hb.size, hr.carry hlt hb⟩
def rnC (pv sv nv : Value) (st : Int) : List Value := [pv, sv, nv, .int .i64 st]
def rnV (pv sv nv : Value) (st : Int) : Value := .agg (rnC pv sv nv st).toArray
structure RnAt (w : World) (v : Value) (r : Rn) : Prop where
  at_ : ∃ pa pc sa sc na nc, v = rnV (.slice pa r.plan.length pc) (.slice sa r.states.length sc) (.slice na r.net.length nc) r.steps ∧ SlAt w w.heap.size (.slice pa r.plan.length pc) r.plan ∧ NumSl w w.heap.size (.slice sa r.states.length sc) r.states ∧ RMsgSl w w.heap.size (.slice na r.net.length nc) r.net
theorem RnAt.carry {w w' : World} {v : Value} {r : Rn} (h : RnAt w v r) (hb : Below w.heap.size w w') : RnAt w' v r := by
  obtain ⟨pa, pc, sa, sc, na, nc, e, h1, h2, h3⟩ := h.at_
  exact ⟨pa, pc, sa, sc, na, nc, e, (h1.carry hb).up hb.size, h2.on hb, (h3.carry hb).up hb.size⟩

theorem sz_nums (l : List Int) (left : Int) (ao : Option Addr) (cap : Nat) (w : World) (hl : l.length ≤ maxLen) (h0 : 0 ≤ left) (h1 : left ≤ 1048576) :
    Calls Tryz.prog 39 #[.slice ao l.length cap, .int .i64 left] w fun e w' => ∃ r : Int, e = .returned (.int .i64 r) ∧ r ≤ 1048576 ∧ (0 ≤ r → r + (l.length : Int) ≤ left) ∧ Below w.heap.size w w' := by
  unfold maxLen at hl
  by_cases h : left - (l.length : Int) < 0
  · go_enter Tryz.func39, Tryz.ntmps39
    go_wp2_with fail
    go_ret
    exact ⟨_, rfl, by omega, fun h => absurd h (by omega), Below.refl _ _⟩
  · go_enter Tryz.func39, Tryz.ntmps39
    go_wp2_with fail
    go_ret
    exact ⟨_, rfl, by omega, fun _ => by omega, Below.refl _ _⟩

set_option maxHeartbeats 1000000 in
theorem sz_run (r : Rn) (pa : Option Addr) (pc : Nat) (sa : Option Addr) (sc : Nat) (na : Option Addr) (nc : Nat) (w : World) (h : RnArg w pa pc sa sc na nc r) :
    Calls Tryz.prog 13 #[rnV (.slice pa r.plan.length pc) (.slice sa r.states.length sc) (.slice na r.net.length nc) r.steps, .int .i64 1048576] w fun e w' => ∃ q : Int, e = .returned (.int .i64 q) ∧ (0 ≤ q → r.fit) ∧ Below w.heap.size w w' := by
  have H := hide h
  have HX := hide (BoxL.new w (rnC (.slice pa r.plan.length pc) (.slice sa r.states.length sc) (.slice na r.net.length nc) r.steps) 32)
  clear h
  unfold rnV rnC at *
  go_enter Tryz.func13, Tryz.ntmps13
  go_wp2_with (first
    | (go_at_call 40; refine (sz2_msgs r.net r2 na nc _ H.out.nok H.out.nl (by omega) hr2 (H.out.carry HB2.out).nr).mono ?_; rintro e w3 ⟨r3, rfl, hr3, hf3, hb3⟩; have HF3 := hide hf3; have HB3 : Hid (Below w.heap.size w w3) := hide (HB2.out.trans (hb3.mono HB2.out.size)); clear hf3 hb3; by_cases hn3 : r3 < 0)
    | (go_at_call 39; refine (sz_nums r.states r1 sa sc _ H.out.sl (by omega) hr1).mono ?_; rintro e w2 ⟨r2, rfl, hr2, hf2, hb2⟩; have HF2 := hide hf2; have HB2 : Hid (Below w.heap.size w w2) := hide (HB1.out.trans (hb2.mono HB1.out.size)); have y2 := (HX1.out.keep (below_apart hb2) (by simp)).cell 2 _ rfl; clear hf2 hb2; by_cases hn2 : r2 < 0)
    | (go_at_call 8; refine (sz2_nodes r.plan pa pc _ H.out.ok H.out.pl (H.out.carry (malloc1 _ _)).pr).mono ?_; rintro e w1 ⟨r1, rfl, hr1, hf1, hb1⟩; have HF1 := hide hf1; have HB1 : Hid (Below w.heap.size w w1) := hide ((malloc1 _ _).trans (hb1.mono (by simp))); have HX1 := hide (HX.out.keep (below_apart hb1) (by simp)); have x1 := HX1.out.cell 1 _ rfl; clear hf1 hb1; by_cases hn1 : r1 < 0))
  all_goals go_ret
  all_goals first
    | exact ⟨_, rfl, fun h => absurd h (by omega), HB1.out⟩
    | exact ⟨_, rfl, fun h => absurd h (by omega), HB2.out⟩
    | exact ⟨_, rfl, fun h => absurd h (by omega), HB3.out⟩
    | exact ⟨_, rfl, fun _ => ⟨HF1.out (by omega), by have := HF2.out (by omega); omega, ⟨by have := (HF3.out (by omega)).1; omega, (HF3.out (by omega)).2⟩⟩, HB3.out⟩

set_option maxHeartbeats 1000000 in
theorem eq_run (r : Rn) (v u : Value) (w : World) (hv : RnAt w v r) (hu : RnAt w u r) :
    Calls Tryz.prog 17 #[v, u] w fun e w' => e = .returned (.bool true) ∧ Below w.heap.size w w' := by
  obtain ⟨pa, pc, sa, sc, na, nc, rfl, h1, h2, h3⟩ := hv.at_
  obtain ⟨pa', pc', sa', sc', na', nc', rfl, h1', h2', h3'⟩ := hu.at_
  have HC : Hid (∀ w', Below w.heap.size w w' → SlAt w' w'.heap.size (.slice pa r.plan.length pc) r.plan ∧ NumSl w' w'.heap.size (.slice sa r.states.length sc) r.states ∧ RMsgSl w' w'.heap.size (.slice na r.net.length nc) r.net ∧ SlAt w' w'.heap.size (.slice pa' r.plan.length pc') r.plan ∧ NumSl w' w'.heap.size (.slice sa' r.states.length sc') r.states ∧ RMsgSl w' w'.heap.size (.slice na' r.net.length nc') r.net) := hide (fun w' hb => ⟨(h1.carry hb).up hb.size, h2.on hb, (h3.carry hb).up hb.size, (h1'.carry hb).up hb.size, h2'.on hb, (h3'.carry hb).up hb.size⟩)
  have HW : Hid (∀ (o1 o2 : Obj), Below w.heap.size w ((w.alloc o1).alloc o2)) := hide (fun o1 o2 => (malloc1 _ _).trans ((malloc1 _ _).mono (by simp)))
  have HX : Hid (∀ (o : Obj), BoxL ((w.alloc (.cells (rnC (.slice pa r.plan.length pc) (.slice sa r.states.length sc) (.slice na r.net.length nc) r.steps).toArray 37)).alloc o) w.heap.size (rnC (.slice pa r.plan.length pc) (.slice sa r.states.length sc) (.slice na r.net.length nc) r.steps)) := hide (fun o => (BoxL.new w _ _).keep (below_apart (malloc1 _ _)) (by simp))
  have HY : Hid (∀ (o : Obj), BoxL ((w.alloc o).alloc (.cells (rnC (.slice pa' r.plan.length pc') (.slice sa' r.states.length sc') (.slice na' r.net.length nc') r.steps).toArray 37)) (w.heap.size + 1) (rnC (.slice pa' r.plan.length pc') (.slice sa' r.states.length sc') (.slice na' r.net.length nc') r.steps)) := hide (fun o => by have := BoxL.new (w.alloc o) (rnC (.slice pa' r.plan.length pc') (.slice sa' r.states.length sc') (.slice na' r.net.length nc') r.steps) 37; simpa using this)
  clear h1 h2 h3 h1' h2' h3' hv hu
  unfold rnV rnC at *
  go_enter Tryz.func17, Tryz.ntmps17
  go_wp2_with (first
    | (go_at_call 50; refine (eq_msgs r.net _ _ _ (HC.out _ HB2.out).2.2.1 (HC.out _ HB2.out).2.2.2.2.2).mono ?_; rintro e w3 ⟨rfl, hb3⟩; have HB3 : Hid (Below w.heap.size w w3) := hide (HB2.out.trans (hb3.mono HB2.out.size)); have X3 := HX2.out.keep (below_apart hb3) (by simp); have Y3 := HY2.out.keep (below_apart hb3) (by simp); have x3 := X3.cell 3 _ rfl; have y3 := Y3.cell 3 _ rfl; clear hb3 X3 Y3)
    | (go_at_call 49; refine (eq_nums r.states _ _ _ (HC.out _ HB1.out).2.1 (HC.out _ HB1.out).2.2.2.2.1).mono ?_; rintro e w2 ⟨rfl, hb2⟩; have HB2 : Hid (Below w.heap.size w w2) := hide (HB1.out.trans (hb2.mono HB1.out.size)); have HX2 := hide (HX1.out.keep (below_apart hb2) (by simp)); have HY2 := hide (HY1.out.keep (below_apart hb2) (by simp)); have x2 := HX2.out.cell 2 _ rfl; have y2 := HY2.out.cell 2 _ rfl; clear hb2)
    | (go_at_call 12; refine (eq_nodes r.plan _ _ _ (HC.out _ (HW.out _ _)).1 (HC.out _ (HW.out _ _)).2.2.2.1).mono ?_; rintro e w1 ⟨rfl, hb1⟩; have HB1 : Hid (Below w.heap.size w w1) := hide ((HW.out _ _).trans (hb1.mono (by simp; omega))); have HX1 := hide ((HX.out _).keep (below_apart hb1) (by simp)); have HY1 := hide ((HY.out _).keep (below_apart hb1) (by simp)); have x1 := HX1.out.cell 1 _ rfl; have y1 := HY1.out.cell 1 _ rfl; clear hb1))
  all_goals
    go_ret
    exact ⟨rfl, HB3.out⟩
end Go.Proofs.YtaaeledleldllaaGreat
namespace Go.Proofs.YtaaeledleldllaaGreat
open Go.RowKit
attribute [local go_sem ↓] Go.wp_at_zero Go.wp_at_succ

set_option maxRecDepth 100000 in
set_option maxHeartbeats 4000000 in
theorem make_talk (f : Nat) (hf : MakeCalls f) (st all r : List Nd) (pos : Nat) (w : World) (xb B base : Nat) (v sv ev : Value) (z : Int) (nv fv : Value) (sts : List RState) (eds : List REdge) (ns : List ByteArray) (fis : List Int) (op K : Int) (name peer : ByteArray) (M : Nat) (sort : Int) (hpos : pos < all.length) (hx : all[pos] = ⟨op, name, peer, (M : Int), sort⟩)
    (hop : (op = 5 ∧ K = 1) ∨ (op = 6 ∧ K = 2)) (hM : M ≤ 4) (ha : kidsBy (ahead (talkS true) f st) M [] (all.drop (pos + 1)) = some r) (hall : all.length ≤ 40) (hlen : fis.length = ns.length) (hns : ns.length + (f + 1) ≤ 100) (hcs : cntS all pos = sts.length) (hed : eds.length + (all.length - pos) ≤ 900) (h : MkAt w xb B base v sv ev z nv fv all sts eds ns fis) :
    Calls Tryz.prog 181 #[.pointer (some ⟨xb, 0, none⟩), .int .i64 (pos : Int)] w fun e w' => Made w w' xb B base v z (rows4 sv ev nv fv) all ns fis e (svKids (Go.Proofs.YtaaeledleldllaaGreat.sv f ns fis) (fun l k => firstOf ns fis k l) (sts.length : Int) M (all.drop (pos + 1)) (sts ++ [⟨K, peer⟩], eds)) := by
  have H := hide h
  have c0 := h.box.cell 0 _ rfl
  have c1 := h.box.cell 1 _ rfl
  have cz := h.box.fz
  have hxw := h.box.lt
  obtain ⟨i0, hi, hz0, hz1, hz2⟩ := info_parts Tryz.infoRState
  have HI := hide (And.intro hi (And.intro hz0 (And.intro hz1 hz2)))
  obtain ⟨ps, cs, hps⟩ := owns_shape h.st
  obtain ⟨ao, cap, rfl, hc1, hc2, hr⟩ := h.sl
  obtain ⟨b, o, rfl, hb, hrow⟩ := hr (by rintro rfl; simp at hpos)
  have hnode := hrow.get pos hpos
  rw [hx] at hnode
  obtain ⟨d0, d1, d2, d3, d4⟩ := hnode
  dsimp only at d0 d1 d2 d3 d4
  subst hps
  have hst : sts.length ≤ 40 := by have := cntS_le all pos; omega
  have hcs2 : cntS all (pos + 1) = (sts ++ [(⟨K, peer⟩ : RState)]).length := by
    rw [cntS_succ hpos, hx, hcs, List.length_append, List.length_singleton]
    rcases hop with ⟨rfl, -⟩ | ⟨rfl, -⟩ <;> rfl
  obtain ⟨fin, hfin⟩ : ∃ x, svKids (Go.Proofs.YtaaeledleldllaaGreat.sv f ns fis) (fun l k => firstOf ns fis k l) (sts.length : Int) M (all.drop (pos + 1)) (sts ++ [⟨K, peer⟩], eds) = x := ⟨_, rfl⟩
  rw [hfin]
  obtain ⟨WN, hWN⟩ : ∃ WN, WN = (w.alloc (.cells #[.int .i64 op, .string name, .string peer, .int .i64 (M : Int), .int .i64 sort] 68)) := ⟨_, rfl⟩
  have HN3 : Hid (WN.cell? ⟨w.heap.size, 3, none⟩ = some (.int .i64 (M : Int))) := hide (by rw [hWN]; simp)
  have HWN0 : Hid (Mk4 w WN xb (rows4 (.slice ps sts.length cs) ev nv fv) (rows4 (.slice ps sts.length cs) ev nv fv)) := hide (by rw [hWN]; exact Mk4.far (Far.ofBelow (malloc1 w _)))
  have HWN := hide hWN
  clear hWN
  have HST : Hid (∀ (W : World) (sv2 : Value), MkAt W xb B base (.slice (some ⟨b, o, none⟩) all.length cap) sv2 ev z nv fv all (sts ++ [⟨K, peer⟩]) eds ns fis → Mkept w W base xb → Mk4 WN W xb (rows4 (.slice ps sts.length cs) ev nv fv) (rows4 sv2 ev nv fv) → TalkS w WN W xb B base (.slice (some ⟨b, o, none⟩) all.length cap) z (rows4 (.slice ps sts.length cs) ev nv fv) all ns fis (Go.Proofs.YtaaeledleldllaaGreat.sv f ns fis) (ahead (talkS true) f st) (sts.length : Int) r fin M (pos + 1) (sts ++ [⟨K, peer⟩]) eds sv2 ev nv fv) := hide (fun W sv2 h1 h2 h3 => ⟨h1, ⟨[], ha⟩, by omega, hcs2, by omega, hfin, h2, h3⟩)
  have HF := hide hf
  have HLEN := hide hlen
  have HW1 : Hid (∀ ob : Obj, MkAt (w.alloc ob).drew xb B base (.slice (some ⟨b, o, none⟩) all.length cap) (.slice ps sts.length cs) ev z nv fv all sts eds ns fis) := hide (fun ob => (H.out.far ((Far.ofBelow (Below.refl _ _)).alloc ob)).drew)
  have HOLD := hide (rows_old H.out)
  have HS := hide H.out.sz
  have HROW := hide hrow
  clear h hr hi hz0 hz1 hz2 hf ha hcs hcs2 hfin hx hrow hed hlen
  rcases hop with ⟨rfl, rfl⟩ | ⟨rfl, rfl⟩
  all_goals
    go_enter Tryz.func181, Tryz.ntmps181
    go_wp2_with fail
    go_region_law (refine stepM_at rfl (.tmp 117) (.tmp 122) 56 rfl base 103 i0 (.agg #[.int .i64 0, .string ByteArray.empty]) 2 24 Tryz.underlying56 HI.out.1 HI.out.2.1 HI.out.2.2.1 HI.out.2.2.2 rfl (by decide) (.slice ps sts.length cs) sts.length (sts.flatMap RState.cells) (by simp [Act.eval]) (owns_below (HW1.out _).st (malloc1 _ _)) ⟨w.heap.size + 1, 0, none⟩ 1 1 (RState.cells ⟨_, peer⟩) (by simp [Act.eval]) rfl (fun j u hj => new_row1q _ _ _ _ (by simp) j u hj) (RState.cells_one _) (by unfold maxLen; omega) (by omega) (by have := HS.out; simp; omega) ?_; intro v4 w4 hown4 hgr4 hat4; have HM4 := hide (mk_push1 (HW1.out _) _ _ hown4 hgr4 hat4); have HX4 := hide (mk4_S (w3 := (w.alloc (.cells #[.int .i64 _, .string name, .string peer, .int .i64 (M : Int), .int .i64 sort] 68)).drew) (xb := xb) (ev := ev) (nv := nv) (fv := fv) hown4 _ hgr4 hat4); have HB4 := hide ((HW1.out (.cells #[.int .i64 _, .string name, .string peer, .int .i64 (M : Int), .int .i64 sort] 68)).box.keep ((below_apart (malloc1 _ _)).trans (grownBy_apart hgr4)) (fun hm => by rw [List.nil_append] at hm; have := H.out.st.fresh.lo _ hm; have := H.out.low; omega)); have l1 := HB4.out.cell 1 _ rfl; have lz := HB4.out.fz; obtain ⟨p4, c4, rfl⟩ := owns_shape hown4; clear hown4 hgr4 hat4)
    all_goals
      obtain ⟨W5, hW5⟩ : ∃ W, W = w4.setCell ⟨xb, 1, none⟩ (.slice p4 (sts.length + 1) c4) := ⟨_, rfl⟩
      rw [← hW5]
      have HM5 := hide (show MkAt W5 xb B base (.slice (some ⟨b, o, none⟩) all.length cap) (.slice p4 (sts.length + 1) c4) ev z nv fv all (sts ++ [⟨_, peer⟩]) eds ns fis by rw [hW5]; exact HM4.out.1)
      have HK5 := hide (show Mkept w W5 base xb by rw [hW5]; exact ((Far.ofBelow (malloc1 w _)).ap.drew.mkept H.out.sz (by simp)).trans HM4.out.2)
      have HX5 := hide (show Mk4 WN W5 xb (rows4 (.slice ps sts.length cs) ev nv fv) (rows4 (.slice p4 (sts.length + 1) c4) ev nv fv) by rw [hW5, HWN.out]; exact (Mk4.far ⟨(Apart.refl _).drew⟩).trans HX4.out)
      have HT5 := hide (HST.out W5 _ HM5.out HK5.out HX5.out)
      clear hW5 HM4 HB4 HX4 l1 lz HM5 HK5 HX5
      go_wp2_with fail
      go_loopw [1, 11] (fun pv i wr => ∃ (k posk : Nat) (stsk : List RState) (edsk : List REdge) (svk evk nvk fvk : Value), k ≤ M ∧ i = .int .i64 k ∧ pv = .int .i64 posk ∧ TalkS w WN wr xb B base (.slice (some ⟨b, o, none⟩) all.length cap) z (rows4 (.slice ps sts.length cs) ev nv fv) all ns fis (Go.Proofs.YtaaeledleldllaaGreat.sv f ns fis) (ahead (talkS true) f st) (sts.length : Int) r fin (M - k) posk stsk edsk svk evk nvk fvk) (fun _ i _ => M - (intOf i).toNat)
      case atStart => exact ⟨0, pos + 1, _, eds, _, ev, nv, fv, Nat.zero_le _, rfl, by go_num, HT5.out⟩
      case round =>
        obtain ⟨k, posk, stsk, edsk, svk, evk, nvk, fvk, hk, rfl, rfl, htk⟩ := hrel
        have HTK := hide htk
        have n3 : wr.cell? ⟨w.heap.size, 3, none⟩ = some (.int .i64 (M : Int)) := htk.four.cell HN3.out (by omega) (fun hm => by have := HOLD.out _ hm; omega)
        clear htk
        by_cases hlt : k < M
        · obtain ⟨m', hm'⟩ : ∃ m', M - k = m' + 1 := ⟨M - k - 1, by omega⟩
          have HMK1 : Hid (M - (k + 1) = m') := hide (by omega)
          rw [hm'] at HTK
          obtain ⟨hpl, fstv, O, hfir, hmk, hnx, hedl⟩ := talk_round HTK.out HF.out HLEN.out hall hns
          have HFIR := hide hfir
          have HMK := hide hmk
          have HNX := hide hnx
          have e0 := HTK.out.ma.box.cell 0 _ rfl
          have hxr := HTK.out.ma.box.lt
          have hrow' := sl_row HTK.out.ma.sl (by rintro rfl; simp at hpl)
          obtain ⟨-, m1, -, -, m4⟩ := hrow'.get posk hpl
          obtain ⟨cname, hcn⟩ : ∃ x, all[posk].name = x := ⟨_, rfl⟩
          obtain ⟨csort, hcs⟩ : ∃ x, all[posk].sort = x := ⟨_, rfl⟩
          rw [hcn] at m1 HMK
          rw [hcs] at m4 HMK
          clear hfir hmk hnx hrow' hcn hcs hm'
          go_wp2_with fail
          refine wp_region_tail1 21 (.tmp 0) (.pointer (some ⟨xb, 0, none⟩)) rfl rfl rfl (by kernel_rfl) (by kernel_rfl) (fun _ _ _ _ h => h) (fun W hW => ?_)
          simp only [List.take_succ_cons, List.take_zero, List.drop_succ_cons, List.drop_zero, Act.put, List.setIfInBounds_toArray, List.set_cons_zero, List.set_cons_succ]
          have hne := grown_some W
          have k0 := grown_cell (w := W) (by rw [hW]; exact e0)
          have k1 := grown_cell (w := W) (by rw [hW]; exact m1)
          have k4 := grown_cell (w := W) (by rw [hW]; exact m4)
          have HBW : Hid (Below wr.heap.size wr W) := hide (by rw [hW]; exact Below.refl _ _)
          have HWE := hide hW
          clear hW
          repeat (go_big_quiet_step (first
            | (go_at_call 180; exact grown_more (HFIR.out _ (HBW.out.trans ((Grown.bel _).mono HBW.out.size))))))
          refine wpQuiet_nil ?_
          intro w2 hw2
          have HB2 : Hid (Below wr.heap.size wr w2) := hide (HBW.out.trans (hw2.mono HBW.out.size))
          have HM2 := hide (far_below HTK.out.ma HB2.out)
          clear hw2 hne k0 k1 k4
          go_wp2_with (first
            | (go_at_call 202; refine (mk_edge ⟨(sts.length : Int), cname, csort, fstv⟩ w2 xb base evk edsk (by omega) HM2.out.edAt).mono ?_; rintro e w3 ⟨ev3, rfl, ho3, hc3, he3⟩; have HE3 := hide (mk_edged HM2.out ho3 hc3 he3); clear ho3 hc3 he3)
            | (go_at_call 181; refine (HMK.out w3 ev3 HE3.out.1).mono ?_; rintro e w4' ⟨sv4, ev4, nv4, fv4, rfl, hm4, hk4, hx4⟩; have HM4' := hide hm4; have HK4' := hide hk4; have HX4' := hide hx4; clear hm4 hk4 hx4))
          go_roundw
          case rel =>
            refine ⟨k + 1, all.length - O.1.length, O.2.1, O.2.2, sv4, ev4, nv4, fv4, hlt, by go_num, rfl, ?_⟩
            rw [HMK1.out]
            exact HNX.out w3 w4' ev3 sv4 ev4 nv4 fv4 (((Far.ofBelow HB2.out).ap.mkept HTK.out.ma.sz (by simp)).trans HE3.out.2.1) ((Mk4.far (Far.ofBelow HB2.out)).trans HE3.out.2.2) HM4'.out HK4'.out HX4'.out
          case measure => simp [intOf]; omega
        · have hzz : M - k = 0 := by omega
          rw [hzz] at HTK
          have HSM := hide HTK.out.same
          rw [svKids] at HSM
          have HLE : Hid (((all.length - (all.drop posk).length : Nat) : Int) = (posk : Int)) := hide (by have := HTK.out.le; rw [List.length_drop]; omega)
          go_wp2_with fail
          go_ret
          rw [← HSM.out]
          exact ⟨svk, evk, nvk, fvk, ret_int HLE.out, HTK.out.ma, HTK.out.kept, HWN0.out.trans HTK.out.four⟩
end Go.Proofs.YtaaeledleldllaaGreat
namespace Go.Proofs.YtaaeledleldllaaGreat
open Go.RowKit

theorem peer_end {n : Nd} (h : endB n = true) : n.peer = ByteArray.empty ∧ n.many = 0 := by
  simp only [endB, Bool.and_eq_true, beq_iff_eq] at h
  refine ⟨?_, h.1.2⟩
  have h1 := h.1.1.2
  rw [Go.ByteArray.toList_eq] at h1
  apply ByteArray.ext
  exact Array.ext' h1
theorem talk_op {n : Nd} (h : talkS true n = true) : (n.op = 5 ∨ n.op = 6) ∧ 1 ≤ n.many ∧ n.many ≤ 4 := by
  simp only [talkS, manyB, Bool.and_eq_true, Bool.or_eq_true, decide_eq_true_eq, beq_iff_eq, if_true] at h
  exact ⟨h.2.2, h.1.1.2⟩
theorem make_calls : ∀ f : Nat, MakeCalls f := by
  intro f
  induction f with
  | zero =>
    intro st all r pos w xb B base v sv ev z nv fv sts eds ns fis ha hall hpos hlen hns hcs hed h
    have hdr : all.drop pos = all[pos] :: all.drop (pos + 1) := List.drop_eq_getElem_cons hpos
    rw [hdr] at ha ⊢
    have hst : sts.length ≤ 1000 := by have := cntS_le all pos; omega
    by_cases h1 : all[pos].op = 1
    · rw [Go.Proofs.YtaaeledleldllaaGreat.sv, if_pos (by simpa using h1)]
      exact make_var all pos w xb B base v sv ev z nv fv sts eds ns fis hall hpos h1 h
    · by_cases h0 : all[pos].op = 0
      · rw [ahead_0 h0] at ha
        split at ha
        · rename_i he
          rw [Go.Proofs.YtaaeledleldllaaGreat.sv, if_neg (by simpa using h1), (peer_end he).1, h0]
          exact make_end all pos w xb B base v sv ev z nv fv sts eds ns fis hall hpos h0 hst h
        · cases ha
      · rw [ahead_t0 h0 h1] at ha; cases ha
  | succ f ih =>
    intro st all r pos w xb B base v sv ev z nv fv sts eds ns fis ha hall hpos hlen hns hcs hed h
    have hdr : all.drop pos = all[pos] :: all.drop (pos + 1) := List.drop_eq_getElem_cons hpos
    rw [hdr] at ha ⊢
    have hst : sts.length ≤ 1000 := by have := cntS_le all pos; omega
    by_cases h1 : all[pos].op = 1
    · rw [Go.Proofs.YtaaeledleldllaaGreat.sv, if_pos (by simpa using h1)]
      exact make_var all pos w xb B base v sv ev z nv fv sts eds ns fis hall hpos h1 h
    · by_cases h2 : all[pos].op = 2
      · rw [ahead_2 h2] at ha
        split at ha
        · rw [Go.Proofs.YtaaeledleldllaaGreat.sv, if_neg (by simpa using h1), if_pos (by simpa using h2)]
          obtain ⟨n, hn⟩ : ∃ n, all[pos] = n := ⟨_, rfl⟩
          rw [hn] at h2 ha ⊢
          obtain ⟨op, name, peer, many, sort⟩ := n
          dsimp only at h2
          subst h2
          exact make_rec f ih st all r pos w xb B base v sv ev z nv fv sts eds ns fis name peer many sort hpos hn ha hall hlen hns hcs hed h
        · cases ha
      · by_cases h0 : all[pos].op = 0
        · rw [ahead_0 h0] at ha
          split at ha
          · rename_i he
            rw [Go.Proofs.YtaaeledleldllaaGreat.sv, if_neg (by simpa using h1), if_neg (by simpa using h2), (peer_end he).1, (peer_end he).2, h0]
            exact make_end all pos w xb B base v sv ev z nv fv sts eds ns fis hall hpos h0 hst h
          · cases ha
        · rw [ahead_t h0 h1 h2] at ha
          split at ha
          · rename_i ht
            rw [Go.Proofs.YtaaeledleldllaaGreat.sv, if_neg (by simpa using h1), if_neg (by simpa using h2)]
            obtain ⟨n, hn⟩ : ∃ n, all[pos] = n := ⟨_, rfl⟩
            rw [hn] at ht ha ⊢
            obtain ⟨op, name, peer, many, sort⟩ := n
            have hop := talk_op ht
            dsimp only at hop ha ⊢
            obtain ⟨M, hM⟩ : ∃ M : Nat, many = (M : Int) := ⟨many.toNat, by omega⟩
            subst hM
            rw [Int.toNat_natCast] at ha ⊢
            exact make_talk f ih _ all r pos w xb B base v sv ev z nv fv sts eds ns fis op (kindW op) name peer M sort hpos hn (by rcases hop.1 with rfl | rfl; exact .inl ⟨rfl, rfl⟩; exact .inr ⟨rfl, rfl⟩) (by omega) ha hall hlen hns hcs hed h
          · cases ha
end Go.Proofs.YtaaeledleldllaaGreat
namespace Go.Proofs.YtaaeledleldllaaGreat
open Go.RowKit
attribute [local go_sem ↓] Go.wp_at_zero Go.wp_at_succ

theorem mk_new {w : World} {B : Nat} {v : Value} {all : List Nd} (o : Obj) (hB : B ≤ w.heap.size) (hv : SlAt w B v all) : MkAt ((w.alloc o).alloc (.cells #[v, .slice none 0 0, .slice none 0 0, .int .i64 0, .slice none 0 0, .slice none 0 0] 236)) (w.heap.size + 1) B (w.heap.size + 2) v (.slice none 0 0) (.slice none 0 0) 0 (.slice none 0 0) (.slice none 0 0) all [] [] [] [] := by
  refine ⟨?_, hv.carry (((malloc1 w o).trans ((malloc1 _ _).mono (by simp))).mono hB), RStateOwn.nil _ _, REdgeOwn.nil _ _, owns_nil _ _ _ _, owns_nil _ _ _ _, by constructor <;> simp [vblocks, cellBlocks], ⟨by omega, by omega⟩, by simp⟩
  have := BoxL.new (w.alloc o) [v, .slice none 0 0, .slice none 0 0, .int .i64 0, .slice none 0 0, .slice none 0 0] 236
  simpa using this
theorem mk_start {w : World} {xb B base : Nat} {v sv ev : Value} {z : Int} {nv fv : Value} {all : List Nd} {sts : List RState} {eds : List REdge} {ns : List ByteArray} {fis : List Int} (h : MkAt w xb B base v sv ev z nv fv all sts eds ns fis) (x : Int) : MkAt (w.setCell ⟨xb, 3, none⟩ (.int .i64 x)) xb B base v sv ev x nv fv all sts eds ns fis ∧ Mkept w (w.setCell ⟨xb, 3, none⟩ (.int .i64 x)) base xb := by
  have hl := h.low
  have hA := setCell_apart w xb 3 (.int .i64 x)
  have hK := hA.mkept h.sz (xb := xb) (fun b hb => by simp at hb; exact .inl hb)
  have off : ∀ {u : Value}, Fresh base w u → ∀ b ∈ vblocks u, b ∉ [xb] := fun hd b hb hm => by
    simp at hm
    have := hd.lo b hb
    omega
  exact ⟨⟨h.box.set 3 (by simp) _, hK.sl hl.1 hl.2 h.sl, h.st.keep hA (off h.st.fresh), h.ed.keep hA (off h.ed.fresh), owns_keep h.nm hA (off (owns_fresh h.nm)), owns_keep h.fi hA (off (owns_fresh h.fi)), h.four, hl, Nat.le_trans h.sz hA.size⟩, hK⟩
structure LoAns (w w' : World) (e : Ending) (m : Mach) : Prop where
  ans : ∃ sv ev, e = .returned (.agg #[sv, ev, .int .i64 m.start]) ∧ RStateOwn w' w.heap.size sv m.states ∧ REdgeOwn w' w.heap.size ev m.edges ∧ (∀ b ∈ vblocks sv, b ∉ vblocks ev)
  bel : Below w.heap.size w w'
theorem mkept_low {w w3 : World} {o1 o2 : Obj} (h : Mkept ((w.alloc o1).alloc o2) w3 (w.heap.size + 2) (w.heap.size + 1)) : Below w.heap.size w w3 :=
  have hb : Below w.heap.size w ((w.alloc o1).alloc o2) := (malloc1 _ _).trans ((malloc1 _ _).mono (by simp))
  ⟨h.os, h.tape, h.output, by have := h.size; simp at this; omega, fun b hlt => (h.block b (by omega) (by omega)).trans (hb.block b hlt)⟩
set_option maxRecDepth 100000 in
set_option maxHeartbeats 2000000 in
theorem s_l04Of (ns : List Nd) (v : Value) (w : World) (hah : ahead (talkS true) 10 [] ns = some []) (h40 : ns.length ≤ 40) (hv : SlAt w w.heap.size v ns) :
    Calls Tryz.prog 133 #[v] w fun e w' => LoAns w w' e (machP ns) := by
  have hpos : 0 < ns.length := by
    cases ns with
    | nil => cases hah
    | cons => simp
  have hch : ¬ (∀ n ∈ ns.drop 0, n.op = 2) := by rw [List.drop_zero]; exact ahead_chain _ _ _ _ hah
  obtain ⟨fst, hfst⟩ : ∃ x, firstOf [] [] 0 ns = x := ⟨_, rfl⟩
  have HMP : Hid (machP ns = ⟨(svO ns).2.1, (svO ns).2.2, fst⟩) := hide (by rw [← hfst]; rfl)
  have HFIR : Hid (∀ (W : World) (xb B base : Nat), MkAt W xb B base v (.slice none 0 0) (.slice none 0 0) 0 (.slice none 0 0) (.slice none 0 0) ns [] [] [] [] → Calls Tryz.prog 180 #[.pointer (some ⟨xb, 0, none⟩), .int .i64 0] W fun e w' => e = .returned (.int .i64 fst) ∧ Below W.heap.size W w') := hide (fun W xb B base hW => by
    have := first_calls ns [] [] rfl (by simp) (by omega) _ 0 xb W.heap.size W rfl hch hW.firAt (Nat.le_refl _)
    rw [List.drop_zero] at this
    rw [show ((cntS ns 0 : Nat) : Int) = 0 by simp [cntS], hfst] at this
    exact this)
  have HMK : Hid (∀ (W : World) (xb B base : Nat), MkAt W xb B base v (.slice none 0 0) (.slice none 0 0) fst (.slice none 0 0) (.slice none 0 0) ns [] [] [] [] → Calls Tryz.prog 181 #[.pointer (some ⟨xb, 0, none⟩), .int .i64 0] W fun e w' => Made W w' xb B base v fst (rows4 (.slice none 0 0) (.slice none 0 0) (.slice none 0 0) (.slice none 0 0)) ns [] [] e (svO ns)) := hide (fun W xb B base hW => by
    have := make_calls 10 [] ns [] 0 W xb B base v _ _ fst _ _ [] [] [] [] (by rw [List.drop_zero]; exact hah) h40 hpos rfl (by simp) (by simp [cntS]) (by simp; omega) hW
    rw [List.drop_zero] at this
    exact this)
  have HNEW : Hid (∀ o : Obj, MkAt ((w.alloc o).alloc (.cells #[v, .slice none 0 0, .slice none 0 0, .int .i64 0, .slice none 0 0, .slice none 0 0] 236)) (w.heap.size + 1) w.heap.size (w.heap.size + 2) v (.slice none 0 0) (.slice none 0 0) 0 (.slice none 0 0) (.slice none 0 0) ns [] [] [] []) := hide (fun o => mk_new o (Nat.le_refl _) hv)
  have HBX : Hid (∀ (o2 : Obj) (w4 : World), Mkept ((w.alloc (.cells #[.slice none 0 0, .slice none 0 0, .int .i64 0] 59)).alloc o2) w4 (w.heap.size + 2) (w.heap.size + 1) → BoxL w4 w.heap.size [.slice none 0 0, .slice none 0 0, .int .i64 0]) := hide (fun o2 w4 hk => by
    have h0 : BoxL ((w.alloc (.cells #[.slice none 0 0, .slice none 0 0, .int .i64 0] 59)).alloc o2) w.heap.size [.slice none 0 0, .slice none 0 0, .int .i64 0] := (BoxL.new w [.slice none 0 0, .slice none 0 0, .int .i64 0] 59).keep (below_apart (malloc1 _ _)) (by simp)
    have hb := hk.block w.heap.size (by omega) (by omega)
    exact ⟨fun i v hv => (World.cell?_of_block (a := ⟨w.heap.size, i, none⟩) hb).trans (h0.cell i v hv), fun o => (World.frozen?_of_block (a := ⟨w.heap.size, o, none⟩) hb).trans (h0.fz o), Nat.lt_of_lt_of_le h0.lt hk.size⟩)
  obtain ⟨O, hO⟩ : ∃ O, svO ns = O := ⟨_, rfl⟩
  rw [hO] at HMK HMP
  obtain ⟨ao, cap, rfl, hc, hm, hr⟩ := hv
  clear hr hch hfst hO hah
  go_enter Tryz.func133, Tryz.ntmps133
  go_wp2_with (first
    | (go_at_call 181; refine (HMK.out _ _ _ _ HM3.out.1).mono ?_; rintro e w4 ⟨sv4, ev4, nv4, fv4, rfl, hm4, hk4, -⟩; obtain ⟨ps, cs, rfl⟩ := owns_shape hm4.st; obtain ⟨pe, ce, rfl⟩ := owns_shape hm4.ed; have HM4 := hide hm4; have HK4 := hide hk4; have y1 := hm4.box.cell 1 _ rfl; have y2 := hm4.box.cell 2 _ rfl; have y3 := hm4.box.cell 3 _ rfl; have HR4 := hide (show BoxL w4 w.heap.size [.slice none 0 0, .slice none 0 0, .int .i64 0] from HBX.out _ w4 ((HK2.out.trans HM3.out.2).trans hk4)); have r0 := HR4.out.cell 0 _ rfl; have r1 := HR4.out.cell 1 _ rfl; have r2 := HR4.out.cell 2 _ rfl; have rz := HR4.out.fz; clear hm4 hk4)
    | (go_at_call 180; refine (HFIR.out _ _ _ _ (HNEW.out _)).mono ?_; rintro e w2 ⟨rfl, hb2⟩; have HM2 := hide ((HNEW.out _).far (Far.ofBelow hb2)); have HK2 := hide ((Far.ofBelow hb2).ap.mkept (HNEW.out _).sz (xb := w.heap.size + 1) (by simp)); have HM3 := hide (mk_start HM2.out fst); have x3 := HM2.out.box.cell 3 _ rfl; have xz := HM2.out.box.fz; clear hb2))
  refine bodyPost_ret (v := .agg #[.slice ps O.2.1.length cs, .slice pe O.2.2.length ce, .int .i64 fst]) (by simp [results, Tryz.results133, go_sem, r0, r1, r2]) rfl ?_
  rw [HMP.out]
  have hA : Apart w4 (((w4.setCell ⟨w.heap.size, 0, none⟩ (.slice ps O.2.1.length cs)).setCell ⟨w.heap.size, 1, none⟩ (.slice pe O.2.2.length ce)).setCell ⟨w.heap.size, 2, none⟩ (.int .i64 fst)) [w.heap.size] := ((setCell_apart w4 w.heap.size 0 _).setCell 1 _).setCell 2 (.int .i64 fst)
  have off : ∀ {u : Value}, Fresh (w.heap.size + 2) w4 u → ∀ b ∈ vblocks u, b ∉ [w.heap.size] := fun hd b hb hm => by
    simp at hm
    have := hd.lo b hb
    omega
  exact ⟨⟨_, _, rfl, owns_down (HM4.out.st.keep hA (off HM4.out.st.fresh)) (by omega), owns_down (HM4.out.ed.keep hA (off HM4.out.ed.fresh)) (by omega), HM4.out.four.se⟩, (mkept_low ((HK2.out.trans HM3.out.2).trans HK4.out)).trans (hA.below (mkept_low ((HK2.out.trans HM3.out.2).trans HK4.out)).size (by simp))⟩
end Go.Proofs.YtaaeledleldllaaGreat
