import Derived.Test.YtaaeledleldllaaGreatQB47
import Derived.Test.YtaaeledleldllaaGreatQN00
import Derived.Test.YtaaeledleldllaaGreatQB39
import Derived.Test.YtaaeledleldllaaGreatQB50
import Derived.Test.YtaaeledleldllaaGreatQB48
import Derived.Test.YtaaeledleldllaaGreatQB49
namespace Go.Proofs.YtaaeledleldllaaGreat
open Go.RowKit

theorem nd_slat {w : World} {base : Nat} {v : Value} {T : List Nd} (h : NdOwn w base v T) (hl : T.length ≤ 40) : SlAt w w.heap.size v T := rd_slat (h.rdS (by omega)) (fun g hg => hg.2)
def roC (pv sv : Value) (c : Int) : List Value := [pv, sv, .slice none 0 0, .int .i64 0, .slice none 0 0, .int .i64 c]
def roV (pv sv : Value) (c : Int) : Value := .agg (roC pv sv c).toArray
structure RoAns (w w' : World) (e : Ending) (ns : List Nd) (ss : List Int) (c : Int) : Prop where
  ans : ∃ pv sv, e = .returned (roV pv sv c) ∧ NdOwn w' w.heap.size pv ns ∧ NuOwn w' w.heap.size sv ss ∧ ∀ b ∈ vblocks pv, b ∉ vblocks sv
  bel : Below w.heap.size w w'
structure RoAt (w : World) (pa : Option Addr) (pc : Nat) (sa : Option Addr) (sc : Nat) (ns : List Nd) (ss : List Int) : Prop where
  pl : SlAt w w.heap.size (.slice pa ns.length pc) ns
  st : NumSl w w.heap.size (.slice sa ss.length sc) ss
theorem RoAt.carry {w w' : World} {pa : Option Addr} {pc : Nat} {sa : Option Addr} {sc : Nat} {ns : List Nd} {ss : List Int} (h : RoAt w pa pc sa sc ns ss) (hb : Below w.heap.size w w') : RoAt w' pa pc sa sc ns ss :=
  ⟨(h.pl.carry hb).up hb.size, h.st.on hb⟩
structure RoOwn (w : World) (base : Nat) (pa : Option Addr) (pc : Nat) (sa : Option Addr) (sc : Nat) (ns : List Nd) (ss : List Int) : Prop where
  pl : NdOwn w base (.slice pa ns.length pc) ns
  st : NuOwn w base (.slice sa ss.length sc) ss
  off : ∀ b ∈ vblocks (.slice pa ns.length pc), b ∉ vblocks (.slice sa ss.length sc)
def roB (pa : Option Addr) (pn pc : Nat) (sa : Option Addr) (sn sc : Nat) : List Nat := vblocks (.slice pa pn pc) ++ vblocks (.slice sa sn sc)
theorem RoOwn.keep {w w' : World} {base : Nat} {pa : Option Addr} {pc : Nat} {sa : Option Addr} {sc : Nat} {ns : List Nd} {ss : List Int} {l : List Nat} (h : RoOwn w base pa pc sa sc ns ss) (ha : Apart w w' l) (hd : ∀ b ∈ roB pa ns.length pc sa ss.length sc, b ∉ l) : RoOwn w' base pa pc sa sc ns ss :=
  ⟨owns_keep h.pl ha (fun b hb => hd b (List.mem_append.2 (.inl hb))), owns_keep h.st ha (fun b hb => hd b (List.mem_append.2 (.inr hb))), h.off⟩
theorem RoOwn.below {w w' : World} {base : Nat} {pa : Option Addr} {pc : Nat} {sa : Option Addr} {sc : Nat} {ns : List Nd} {ss : List Int} (h : RoOwn w base pa pc sa sc ns ss) (hb : Below w.heap.size w w') : RoOwn w' base pa pc sa sc ns ss := h.keep (below_apart hb) (by simp)
theorem RoOwn.lo {w : World} {base : Nat} {pa : Option Addr} {pc : Nat} {sa : Option Addr} {sc : Nat} {ns : List Nd} {ss : List Int} (h : RoOwn w base pa pc sa sc ns ss) : ∀ b ∈ roB pa ns.length pc sa ss.length sc, base ≤ b ∧ b < w.heap.size := fun b hb => by
  rcases List.mem_append.1 hb with hb | hb
  · exact ⟨(owns_fresh h.pl).lo b hb, (owns_fresh h.pl).hi b hb⟩
  · exact ⟨(owns_fresh h.st).lo b hb, (owns_fresh h.st).hi b hb⟩
theorem RoOwn.at_ {w : World} {base : Nat} {pa : Option Addr} {pc : Nat} {sa : Option Addr} {sc : Nat} {ns : List Nd} {ss : List Int} (h : RoOwn w base pa pc sa sc ns ss) (hn : ns.length ≤ 40) (hs : ss.length ≤ 4) : RoAt w pa pc sa sc ns ss :=
  ⟨nd_slat h.pl hn, h.st.sl (by omega)⟩
theorem ro_own {w w' : World} {e : Ending} {ns : List Nd} {ss : List Int} {c : Int} (h : RoAns w w' e ns ss c) : ∃ pa pc sa sc, e = .returned (.agg #[.slice pa ns.length pc, .slice sa ss.length sc, .slice none 0 0, .int .i64 0, .slice none 0 0, .int .i64 c]) ∧ RoOwn w' w.heap.size pa pc sa sc ns ss := by
  obtain ⟨pv, sv, rfl, h1, h2, h3⟩ := h.ans
  obtain ⟨pa, pc, rfl⟩ := owns_shape h1
  obtain ⟨sa, sc, rfl⟩ := owns_shape h2
  exact ⟨pa, pc, sa, sc, rfl, h1, h2, h3⟩

theorem eq_noEvents (a b : Option Addr) (c d : Nat) (w : World) :
    Calls Tryz.prog 54 #[.slice a 0 c, .slice b 0 d] w fun e w' => e = .returned (.bool true) ∧ w' = w := by
  go_enter Tryz.func54, Tryz.ntmps54
  go_wp2_with fail
  go_loopw [5] (fun i wr => i = .int .i64 0 ∧ wr = w) (fun _ _ => 0)
  case atStart => exact ⟨rfl, rfl⟩
  case round =>
    obtain ⟨rfl, rfl⟩ := hrel
    go_wp2_with fail
    go_ret
    exact ⟨rfl, rfl⟩
theorem mark_noEvents (k0 : Nat) (a : Option Addr) (c : Nat) (w : World) :
    Calls Tryz.prog 57 #[.slice a 0 c, .int .i64 k0] w fun e w' => e = .returned (.int .i64 (k0 : Int)) ∧ w' = w := by
  go_enter Tryz.func57, Tryz.ntmps57
  go_wp2_with fail
  go_loopw [1, 5] (fun kv i wr => i = .int .i64 0 ∧ kv = .int .i64 (k0 : Int) ∧ wr = w) (fun _ _ _ => 0)
  case atStart => exact ⟨rfl, rfl, rfl⟩
  case round =>
    obtain ⟨rfl, rfl, rfl⟩ := hrel
    go_wp2_with fail
    go_ret
    exact ⟨ret_int rfl, rfl⟩
theorem held_noEvents (k0 : Nat) (a : Option Addr) (c : Nat) (w : World) :
    Calls Tryz.prog 59 #[.slice a 0 c, .int .i64 k0] w fun e w' => e = .returned (.int .i64 (k0 : Int)) ∧ w' = w := by
  go_enter Tryz.func59, Tryz.ntmps59
  go_wp2_with fail
  go_loopw [1, 5] (fun kv i wr => i = .int .i64 0 ∧ kv = .int .i64 (k0 : Int) ∧ wr = w) (fun _ _ _ => 0)
  case atStart => exact ⟨rfl, rfl, rfl⟩
  case round =>
    obtain ⟨rfl, rfl, rfl⟩ := hrel
    go_wp2_with fail
    go_ret
    exact ⟨ret_int rfl, rfl⟩
def roRn (ns : List Nd) (ss : List Int) : Rn := ⟨ns, ss, [], 0⟩
theorem ro_rn {w : World} {pa : Option Addr} {pc : Nat} {sa : Option Addr} {sc : Nat} {ns : List Nd} {ss : List Int} (h : RoAt w pa pc sa sc ns ss) : RnAt w (.agg #[.slice pa ns.length pc, .slice sa ss.length sc, .slice none 0 0, .int .i64 0]) (roRn ns ss) :=
  ⟨pa, pc, sa, sc, none, 0, rfl, h.pl, h.st, ⟨none, 0, rfl, Nat.le_refl _, Nat.zero_le _, fun h => absurd rfl h⟩⟩
set_option maxHeartbeats 1000000 in
theorem eq_runOut (ns : List Nd) (ss : List Int) (code : Int) (pa : Option Addr) (pc : Nat) (sa : Option Addr) (sc : Nat) (pb : Option Addr) (pd : Nat) (sb : Option Addr) (sd : Nat) (w : World) (ha : RoAt w pa pc sa sc ns ss) (hb : RoAt w pb pd sb sd ns ss) :
    Calls Tryz.prog 20 #[roV (.slice pa ns.length pc) (.slice sa ss.length sc) code, roV (.slice pb ns.length pd) (.slice sb ss.length sd) code] w fun e w' => e = .returned (.bool true) ∧ Below w.heap.size w w' := by
  have HA := hide ha
  have HB := hide hb
  have HW : Hid (∀ (o1 o2 : Obj), Below w.heap.size w ((w.alloc o1).alloc o2)) := hide (fun o1 o2 => (malloc1 _ _).trans ((malloc1 _ _).mono (by simp)))
  have HX : Hid (BoxL ((w.alloc (.cells (roC (.slice pa ns.length pc) (.slice sa ss.length sc) code).toArray 43)).alloc (.cells (roC (.slice pb ns.length pd) (.slice sb ss.length sd) code).toArray 43)) w.heap.size (roC (.slice pa ns.length pc) (.slice sa ss.length sc) code)) := hide ((BoxL.new w _ _).keep (below_apart (malloc1 _ _)) (by simp))
  have HY : Hid (BoxL ((w.alloc (.cells (roC (.slice pa ns.length pc) (.slice sa ss.length sc) code).toArray 43)).alloc (.cells (roC (.slice pb ns.length pd) (.slice sb ss.length sd) code).toArray 43)) (w.heap.size + 1) (roC (.slice pb ns.length pd) (.slice sb ss.length sd) code)) := hide (by have := BoxL.new (w.alloc (.cells (roC (.slice pa ns.length pc) (.slice sa ss.length sc) code).toArray 43)) (roC (.slice pb ns.length pd) (.slice sb ss.length sd) code) 43; simpa using this)
  unfold roV roC at *
  clear ha hb
  go_enter Tryz.func20, Tryz.ntmps20
  go_wp2_with (first
    | (go_at_call 54; refine (eq_noEvents _ _ _ _ _).mono ?_; rintro e w2 ⟨rfl, rfl⟩)
    | (go_at_call 17; refine (eq_run (roRn ns ss) _ _ _ (ro_rn (HA.out.carry (HW.out _ _))) (ro_rn (HB.out.carry (HW.out _ _)))).mono ?_; rintro e w1 ⟨rfl, hb1⟩; have HB1 : Hid (Below w.heap.size w w1) := hide ((HW.out _ _).trans (hb1.mono (by simp; omega))); have X1 := HX.out.keep (below_apart hb1) (by simp); have Y1 := HY.out.keep (below_apart hb1) (by simp); have x4 := X1.cell 4 _ rfl; have x5 := X1.cell 5 _ rfl; have y4 := Y1.cell 4 _ rfl; have y5 := Y1.cell 5 _ rfl; clear hb1 X1 Y1))
  go_ret
  exact ⟨rfl, HB1.out⟩
set_option maxHeartbeats 1000000 in
theorem mark_run0 (k0 : Nat) (ns : List Nd) (ss : List Int) (pa : Option Addr) (pc : Nat) (sa : Option Addr) (sc : Nat) (w : World) (base : Nat) (h1 : 1 ≤ k0) (hk : k0 + ns.length * 5 + ss.length ≤ 5900000) (hn : ns.length ≤ 40) (hs : ss.length ≤ 4) (h : RoOwn w base pa pc sa sc ns ss) :
    Calls Tryz.prog 56 #[.agg #[.slice pa ns.length pc, .slice sa ss.length sc, .slice none 0 0, .int .i64 0], .int .i64 k0] w fun e w' => e = .returned (.int .i64 ((k0 + ns.length * 5 + ss.length : Nat) : Int)) ∧ RoAt w' pa pc sa sc (markNs k0 ns.length) (markI (k0 + ns.length * 5) ss.length) ∧ Apart w w' (roB pa ns.length pc sa ss.length sc) := by
  have H := hide h
  have HX := hide (BoxL.new w [.slice pa ns.length pc, .slice sa ss.length sc, .slice none 0 0, .int .i64 0] 37)
  have hb0 : w.heap.size ∉ vblocks (.slice pa ns.length pc) := fun hm => by have := (owns_fresh h.pl).hi _ hm; omega
  have hb1 : w.heap.size ∉ vblocks (.slice sa ss.length sc) := fun hm => by have := (owns_fresh h.st).hi _ hm; omega
  have HB0 := hide hb0
  have HB1 := hide hb1
  have HM : Hid (∀ (k : Nat) (W : World), 1 ≤ k → k ≤ 5900000 → Calls Tryz.prog 95 #[.slice none 0 0, .int .i64 k] W fun e w' => e = .returned (.int .i64 (k : Int)) ∧ Apart W w' []) := hide (fun k W h1 h2 => by
    refine (mark_msgs k [] (.slice none 0 0) W W.heap.size h1 (by simpa using h2) ⟨none, 0, rfl, Nat.le_refl _, Nat.zero_le _, fun h => absurd rfl h⟩ ⟨fun b hb => by simp [Value.ownBlock] at hb⟩).mono ?_
    rintro e w' ⟨rfl, -, hg⟩
    refine ⟨by simp, ?_⟩
    first | exact hg | exact grownBy_apart hg)
  clear h hb0 hb1
  obtain ⟨k1, hk1⟩ : ∃ k1, k0 + ns.length * 5 = k1 := ⟨_, rfl⟩
  obtain ⟨k2, hk2⟩ : ∃ k2, k1 + ss.length = k2 := ⟨_, rfl⟩
  rw [hk1] at hk ⊢
  rw [hk2] at hk ⊢
  have HK1 := hide hk1
  have HK2 := hide hk2
  clear hk1 hk2
  go_enter Tryz.func56, Tryz.ntmps56
  go_wp2_with (first
    | (go_at_call 95; refine (HM.out k2 _ (by have := HK1.out; have := HK2.out; omega) hk).mono ?_; rintro e w3 ⟨rfl, ha3⟩; have HA3 := hide ha3; clear ha3)
    | (go_at_call 94; refine (mark_nums k1 ss _ _ base (by have := HK2.out; omega) HS1.out HO1.out).mono ?_; rintro e w2 ⟨rfl, hs2, ha2⟩; rw [HK2.out]; have HS2 := hide hs2; have HA2 := hide ha2; have x2 := (HX1.out.keep ha2 HB1.out).cell 2 _ rfl; clear hs2 ha2)
    | (go_at_call 21; refine (mark_nodes k0 ns _ _ base h1 (by have := HK1.out; have := HK2.out; omega) (nd_slat (H.out.below (malloc1 _ _)).pl hn) (own_at (H.out.below (malloc1 _ _)).pl)).mono ?_; rintro e w1 ⟨rfl, hs1, hg1⟩; rw [HK1.out]; have ha1 := grownBy_apart hg1; have HP1 := hide hs1; have HA1 := hide ha1; have HS1 := hide (NuOwn.sl (base := base) (l := ss) (owns_keep (H.out.below (malloc1 _ _)).st ha1 (fun b hb hm => H.out.off b hm hb)) (by omega)); have HO1 : Hid (MOwn base w1 (.slice sa ss.length sc)) := hide (by have := own_at (owns_keep (H.out.below (malloc1 w (.cells #[.slice pa ns.length pc, .slice sa ss.length sc, .slice none 0 0, .int .i64 0] 37))).st ha1 (fun b hb hm => H.out.off b hm hb)); exact ⟨this.free⟩); have HX1 := hide (HX.out.keep ha1 HB0.out); have x1 := HX1.out.cell 1 _ rfl; clear hs1 hg1 ha1))
  go_ret
  have hA := ((below_apart (malloc1 w (.cells #[.slice pa ns.length pc, .slice sa ss.length sc, .slice none 0 0, .int .i64 0] 37))).trans HA1.out).trans (HA2.out.trans HA3.out)
  refine ⟨ret_int rfl, ⟨?_, ?_⟩, hA.sub (fun b hb => by simpa [roB] using hb)⟩
  · rw [markNs_len]
    exact (slat_keep HP1.out (HA2.out.trans HA3.out) (fun b hb hm => by simp at hm; exact H.out.off b hb hm) (Nat.le_refl _)).up (HA2.out.trans HA3.out).size
  · rw [markI_len]
    have h2 := HS2.out
    exact nums_keep h2 HA3.out.size (fun b _ hlt => HA3.out.block b hlt (by simp))
set_option maxHeartbeats 1000000 in
theorem held_run0 (k0 n m : Nat) (pa : Option Addr) (pc : Nat) (sa : Option Addr) (sc : Nat) (w : World) (h1 : 1 ≤ k0) (hk : k0 + n * 5 + m ≤ 5900000) (h : RoAt w pa pc sa sc (markNs k0 n) (markI (k0 + n * 5) m)) :
    Calls Tryz.prog 58 #[.agg #[.slice pa n pc, .slice sa m sc, .slice none 0 0, .int .i64 0], .int .i64 k0] w fun e w' => e = .returned (.int .i64 ((k0 + n * 5 + m : Nat) : Int)) ∧ Below w.heap.size w w' := by
  have HP : Hid (∀ W, Below w.heap.size w W → SlAt W W.heap.size (.slice pa n pc) (markNs k0 n)) := hide (fun W hb => by have := ((h.pl.carry hb).up hb.size); rwa [markNs_len] at this)
  have HS : Hid (∀ W, Below w.heap.size w W → NumSl W W.heap.size (.slice sa m sc) (markI (k0 + n * 5) m)) := hide (fun W hb => by have := h.st.on hb; rwa [markI_len] at this)
  have HM : Hid (∀ (k : Nat) (W : World), 1 ≤ k → k ≤ 5900000 → Calls Tryz.prog 98 #[.slice none 0 0, .int .i64 k] W fun e w' => e = .returned (.int .i64 (k : Int)) ∧ Below W.heap.size W w') := hide (fun k W h1 h2 => by
    refine (held_msgs k 0 (.slice none 0 0) W h1 (by simpa using h2) ⟨none, 0, rfl, Nat.le_refl _, Nat.zero_le _, fun h => absurd rfl h⟩).mono ?_
    rintro e w' ⟨rfl, hb⟩
    exact ⟨by simp, hb⟩)
  have HX := hide (BoxL.new w [.slice pa n pc, .slice sa m sc, .slice none 0 0, .int .i64 0] 37)
  clear h
  obtain ⟨k1, hk1⟩ : ∃ k1, k0 + n * 5 = k1 := ⟨_, rfl⟩
  obtain ⟨k2, hk2⟩ : ∃ k2, k1 + m = k2 := ⟨_, rfl⟩
  rw [hk1] at hk HS ⊢
  rw [hk2] at hk ⊢
  have HK1 := hide hk1
  have HK2 := hide hk2
  clear hk1 hk2
  go_enter Tryz.func58, Tryz.ntmps58
  go_wp2_with (first
    | (go_at_call 98; refine (HM.out k2 _ (by have := HK1.out; have := HK2.out; omega) hk).mono ?_; rintro e w3 ⟨rfl, hb3⟩; have HB3 : Hid (Below w.heap.size w w3) := hide (HB2.out.trans (hb3.mono HB2.out.size)); clear hb3)
    | (go_at_call 97; refine (held_nums k1 m _ _ (by have := HK2.out; omega) (HS.out _ HB1.out)).mono ?_; rintro e w2 ⟨rfl, hb2⟩; rw [HK2.out]; have HB2 : Hid (Below w.heap.size w w2) := hide (HB1.out.trans (hb2.mono HB1.out.size)); have x2 := (HX1.out.keep (below_apart hb2) (by simp)).cell 2 _ rfl; clear hb2)
    | (go_at_call 96; refine (held_nodes k0 n _ _ h1 (by have := HK1.out; have := HK2.out; omega) (HP.out _ (malloc1 _ _))).mono ?_; rintro e w1 ⟨rfl, hb1⟩; rw [HK1.out]; have HB1 : Hid (Below w.heap.size w w1) := hide ((malloc1 _ _).trans (hb1.mono (by simp))); have HX1 := hide (HX.out.keep (below_apart hb1) (by simp)); have x1 := HX1.out.cell 1 _ rfl; clear hb1))
  go_ret
  exact ⟨ret_int rfl, HB3.out⟩
set_option maxHeartbeats 1000000 in
theorem mark_runOut (k0 : Nat) (ns : List Nd) (ss : List Int) (code : Int) (pa : Option Addr) (pc : Nat) (sa : Option Addr) (sc : Nat) (w : World) (base : Nat) (h1 : 1 ≤ k0) (hk : k0 + ns.length * 5 + ss.length ≤ 5900000) (hn : ns.length ≤ 40) (hs : ss.length ≤ 4) (h : RoOwn w base pa pc sa sc ns ss) :
    Calls Tryz.prog 22 #[roV (.slice pa ns.length pc) (.slice sa ss.length sc) code, .int .i64 k0] w fun e w' => e = .returned (.int .i64 ((k0 + ns.length * 5 + ss.length : Nat) : Int)) ∧ RoAt w' pa pc sa sc (markNs k0 ns.length) (markI (k0 + ns.length * 5) ss.length) ∧ Apart w w' (roB pa ns.length pc sa ss.length sc) := by
  have H := hide h
  have HX := hide (BoxL.new w (roC (.slice pa ns.length pc) (.slice sa ss.length sc) code) 43)
  have HNB : Hid (w.heap.size ∉ roB pa ns.length pc sa ss.length sc) := hide (fun hm => by have := (h.lo _ hm).2; omega)
  clear h
  obtain ⟨k2, hk2⟩ : ∃ k2, k0 + ns.length * 5 + ss.length = k2 := ⟨_, rfl⟩
  rw [hk2] at hk ⊢
  have HK2 := hide hk2
  clear hk2
  unfold roV roC at *
  go_enter Tryz.func22, Tryz.ntmps22
  go_wp2_with (first
    | (go_at_call 57; refine (mark_noEvents k2 _ _ _).mono ?_; rintro e w2 ⟨rfl, rfl⟩)
    | (go_at_call 56; refine (mark_run0 k0 ns ss pa pc sa sc _ base h1 (by have := HK2.out; omega) hn hs (H.out.below (malloc1 _ _))).mono ?_; rintro e w1 ⟨rfl, hs1, ha1⟩; rw [HK2.out]; have HS1 := hide hs1; have HA1 := hide ha1; have x4 := (HX.out.keep ha1 HNB.out).cell 4 _ rfl; clear hs1 ha1))
  go_ret
  exact ⟨ret_int rfl, HS1.out, by have := (below_apart (malloc1 w (.cells #[.slice pa ns.length pc, .slice sa ss.length sc, .slice none 0 0, .int .i64 0, .slice none 0 0, .int .i64 code] 43))).trans HA1.out; rwa [List.nil_append] at this⟩
set_option maxHeartbeats 1000000 in
theorem held_runOut (k0 n m : Nat) (code : Int) (pa : Option Addr) (pc : Nat) (sa : Option Addr) (sc : Nat) (w : World) (h1 : 1 ≤ k0) (hk : k0 + n * 5 + m ≤ 5900000) (h : RoAt w pa pc sa sc (markNs k0 n) (markI (k0 + n * 5) m)) :
    Calls Tryz.prog 23 #[roV (.slice pa n pc) (.slice sa m sc) code, .int .i64 k0] w fun e w' => e = .returned (.int .i64 ((k0 + n * 5 + m : Nat) : Int)) ∧ Below w.heap.size w w' := by
  have H := hide h
  have HX := hide (BoxL.new w (roC (.slice pa n pc) (.slice sa m sc) code) 43)
  clear h
  obtain ⟨k2, hk2⟩ : ∃ k2, k0 + n * 5 + m = k2 := ⟨_, rfl⟩
  rw [hk2] at hk ⊢
  have HK2 := hide hk2
  clear hk2
  unfold roV roC at *
  go_enter Tryz.func23, Tryz.ntmps23
  go_wp2_with (first
    | (go_at_call 59; refine (held_noEvents k2 _ _ _).mono ?_; rintro e w2 ⟨rfl, rfl⟩)
    | (go_at_call 58; refine (held_run0 k0 n m pa pc sa sc _ h1 (by have := HK2.out; omega) (H.out.carry (malloc1 _ _))).mono ?_; rintro e w1 ⟨rfl, hb1⟩; rw [HK2.out]; have HB1 : Hid (Below w.heap.size w w1) := hide ((malloc1 _ _).trans (hb1.mono (by simp))); have x4 := (HX.out.keep (below_apart hb1) (by simp)).cell 4 _ rfl; clear hb1))
  go_ret
  exact ⟨ret_int rfl, HB1.out⟩
end Go.Proofs.YtaaeledleldllaaGreat
namespace Go.Proofs.YtaaeledleldllaaGreat
open Go.RowKit

def startsOf (p : Pn 10) (rs : List ByteArray) : List Int := rs.map fun x => (machOf p x).start
theorem starts_succ {p : Pn 10} {rs : List ByteArray} {k : Nat} (hk : k < rs.length) {m : Mach} (hm : m = machOf p rs[k]) : startsOf p (rs.take (k + 1)) = startsOf p (rs.take k) ++ [m.start] := by
  unfold startsOf
  rw [List.take_succ_eq_append_getElem hk, List.map_append, hm]
  rfl
theorem starts_len {p : Pn 10} {rs : List ByteArray} {k : Nat} (hk : k ≤ rs.length) : (startsOf p (rs.take k)).length = k := by
  unfold startsOf
  rw [List.length_map, List.length_take]
  omega
def NwIs (ns : List Nd) (T : List Nd) (Z : List Int) (C : Int) : Prop :=
  (400 < ns.length ∧ T = [] ∧ Z = [] ∧ C = 2) ∨ (ns.length ≤ 400 ∧ rightB false ns = false ∧ T = [] ∧ Z = [] ∧ C = 1) ∨ (ns.length ≤ 400 ∧ rightB false ns = true ∧ Snd ns false ∧ T = [] ∧ Z = [] ∧ C = 11) ∨ (ns.length ≤ 400 ∧ rightB false ns = true ∧ Snd ns true ∧ T = ns ∧ C = 0 ∧ ∃ p, SPlan ns p ∧ Z = startsOf p (rolesS ns))
theorem nw_ex (ns : List Nd) : ∃ T Z C, NwIs ns T Z C ∧ T.length ≤ 40 ∧ Z.length ≤ 4 := by
  by_cases h1 : 400 < ns.length
  · exact ⟨[], [], 2, .inl ⟨h1, rfl, rfl, rfl⟩, by simp, by simp⟩
  · cases h2 : rightB false ns with
    | false => exact ⟨[], [], 1, .inr (.inl ⟨by omega, h2, rfl, rfl, rfl⟩), by simp, by simp⟩
    | true =>
      obtain ⟨q, hq⟩ := snd_ex ns
      cases q with
      | false => exact ⟨[], [], 11, .inr (.inr (.inl ⟨by omega, h2, hq, rfl, rfl, rfl⟩)), by simp, by simp⟩
      | true =>
        obtain ⟨p, hp⟩ := snd_plan hq
        exact ⟨ns, startsOf p (rolesS ns), 0, .inr (.inr (.inr ⟨by omega, h2, hq, rfl, rfl, p, hp, rfl⟩)), hp.len, by unfold startsOf; rw [List.length_map]; exact right_roles hp.right⟩
end Go.Proofs.YtaaeledleldllaaGreat
