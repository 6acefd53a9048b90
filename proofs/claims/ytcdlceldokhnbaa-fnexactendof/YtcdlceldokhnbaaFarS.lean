/- l04Far of the specification, and its EndOf. -/
import Derived.Test.YtcdlceldokhnbaaEndM
import Derived.Test.YtcdlceldokhnbaaActsS
import Derived.Test.YtcdlceldokhnbaaActsJ
import Derived.Test.YtcdlceldokhnbaaStepM
import Derived.Test.YtcdlceldokhnbaaTail1
import Derived.Test.YtcdlceldokhnbaaGrown
namespace Go.Proofs.Ytcdlceldokhnbaa
open Go.RowKit
attribute [local go_sem ↓] Go.wp_at_zero Go.wp_at_succ

def intV (l : List Int) : List Value := l.map (Value.int .i64)
theorem intV_one (l : List Int) : ∀ u ∈ intV l, u.oneCell' = true := by
  intro u hu
  simp only [intV, List.mem_map] at hu
  obtain ⟨x, _, rfl⟩ := hu
  rfl
theorem intV_get {l : List Int} {i : Int} (h0 : 0 ≤ i) (h1 : i < (l.length : Int)) : (intV l)[i.toNat]? = some (.int .i64 (fget l i)) := by
  have hi : i.toNat < l.length := by omega
  rw [intV, List.getElem?_map, List.getElem?_eq_getElem hi, fget, List.getD_eq_getElem?_getD, List.getElem?_eq_getElem hi]
  rfl
theorem Try.infoI64 : (Try.prog.info? 2).map (fun i => (i.zero, i.size, i.bytes)) = some (some (.int .i64 0), 1, 8) := by kernel_rfl
theorem owns_free {w : World} {base e n : Nat} {g c : Nat} {xs : List Value} (h : w.ownsRow base e 1 (.slice (some ⟨g, 0, none⟩) n c) n xs) (k : Nat) : w.frozen? ⟨g, k, none⟩ = false := by
  obtain ⟨_, hh⟩ := h
  rcases hh with ⟨h1, _⟩ | ⟨g', cap, cur, h1, _, hb, _⟩
  · simp at h1
  · simp at h1
    obtain ⟨rfl, rfl⟩ := h1
    simp [World.frozen?, hb]
theorem owns_addr {w : World} {base e n : Nat} {p : Option Addr} {c : Nat} {xs : List Value} (h : w.ownsRow base e 1 (.slice p n c) n xs) (hn : 0 < n) : ∃ g, p = some ⟨g, 0, none⟩ ∧ base ≤ g ∧ g < w.heap.size := by
  obtain ⟨_, hh⟩ := h
  rcases hh with ⟨h1, h0⟩ | ⟨g, cap, cur, h1, hg, hb, _⟩
  · omega
  · simp at h1
    exact ⟨g, h1.1, hg, (Array.getElem?_eq_some_iff.1 hb).1⟩
theorem owns_set {w : World} {base e n g c : Nat} {xs : List Value} (h : w.ownsRow base e 1 (.slice (some ⟨g, 0, none⟩) n c) n xs) (i : Nat) (x : Value) :
    (w.setCell ⟨g, i, none⟩ x).ownsRow base e 1 (.slice (some ⟨g, 0, none⟩) n c) n (xs.set i x) := by
  obtain ⟨h1, hh⟩ := h
  refine ⟨by simpa using h1, ?_⟩
  rcases hh with ⟨h2, _⟩ | ⟨g', cap, cur, h2, hg, hb, h3, h4, h5, h6⟩
  · simp at h2
  · simp at h2
    obtain ⟨rfl, rfl⟩ := h2
    refine .inr ⟨g, c, cur.setIfInBounds i x, rfl, hg, ?_, h3, h4, by simpa using h5, ?_⟩
    · exact heap_setCell_same _ _ _ _ _ _ hb
    · rw [Array.toList_setIfInBounds, List.take_set, h6]
set_option maxRecDepth 100000 in
set_option maxHeartbeats 1000000 in
theorem s_l04far (m : Mach) (v : Value) (w : World) (hm : machB m = true) (hv : MachAt w v m) :
    Calls Try.prog 94 #[v] w fun e w' => ∃ g c f cc, e = .returned (.slice (some ⟨g, 0, none⟩) m.states.length c) ∧ (∀ i x, (intV f)[i]? = some x → w'.cell? ⟨g, i, none⟩ = some x) ∧ Far m f cc ∧ FarTo m f m.states.length ∧ Below w.heap.size w w' := by
  have HV : Hid (∀ W, Below w.heap.size w W → MachAt W v m) := hide (fun W hb => hv.carry hb)
  obtain ⟨i0, hi, hz0, hz1, hz2⟩ := info_parts Try.infoI64
  have HI := hide (And.intro hi (And.intro hz0 (And.intro hz1 hz2)))
  obtain ⟨sv, ev, rfl, hs, he⟩ := hv
  obtain ⟨sa, sc, rfl, hs1, hs2, hs3⟩ := hs
  obtain ⟨ea, ec, rfl, he1, he2, he3⟩ := he
  have HSR := hide hs3
  have HER := hide he3
  have h40 := mach_40 hm
  have h80 := mach_80 hm
  have HM := hide hm
  clear hs3 he3 hi hz0 hz1 hz2 hm
  go_enter Try.func94, Try.ntmps94
  go_wp2_with fail
  refine wp_named (fun W1 hW1 => ?_)
  have HBW : Hid (Below (w.heap.size + 1) (w.alloc (.cells #[.slice sa m.states.length sc, .slice ea m.edges.length ec, .int .i64 m.start] 43)) W1) := hide (by rw [hW1]; exact (malloc1 _ _).mono (by simp))
  have HOW : Hid (W1.ownsRow (w.heap.size + 1) 2 1 (.slice (some ⟨w.heap.size + 1, 0, none⟩) 0 0) 0 (intV (farNew m 0))) := hide (by
    rw [hW1]
    exact owns_empty _ _ _ _ _ (Nat.le_refl _) (by have := mheap_new (w.alloc (.cells #[.slice sa m.states.length sc, .slice ea m.edges.length ec, .int .i64 m.start] 43)) (.cells #[] 2) (w.heap.size + 1) (by simp); simpa using this))
  clear hW1
  have HLO : Hid (∀ W, Below (w.heap.size + 1) (w.alloc (.cells #[.slice sa m.states.length sc, .slice ea m.edges.length ec, .int .i64 m.start] 43)) W → Below w.heap.size w W ∧ w.heap.size < W.heap.size ∧ W.cell? ⟨w.heap.size, 0, none⟩ = some (.slice sa m.states.length sc) ∧ W.cell? ⟨w.heap.size, 1, none⟩ = some (.slice ea m.edges.length ec)) := hide (fun W hb => ⟨(malloc1 _ _).trans (hb.mono (by simp)), by have := hb.size; simp at this; omega, (hb.cell (p := ⟨w.heap.size, 0, none⟩) (by simp)).trans (by simp), (hb.cell (p := ⟨w.heap.size, 1, none⟩) (by simp)).trans (by simp)⟩)
  go_loopw [3, 4] (fun far i wr => ∃ k : Nat, k ≤ m.states.length ∧ i = .int .i64 k ∧ wr.ownsRow (w.heap.size + 1) 2 1 far k (intV (farNew m k)) ∧ Below (w.heap.size + 1) (w.alloc (.cells #[.slice sa m.states.length sc, .slice ea m.edges.length ec, .int .i64 m.start] 43)) wr) (fun _ i _ => m.states.length - (intOf i).toNat)
  case atStart => exact ⟨0, Nat.zero_le _, rfl, HOW.out, HBW.out⟩
  case round =>
    obtain ⟨k, hk, rfl, hown, hbel⟩ := hrel
    have HOWN := hide hown
    have HBEL := hide hbel
    obtain ⟨hb0, hlr, c0, c1⟩ := HLO.out _ hbel
    have HWR := hide hb0
    obtain ⟨p, cp, rfl⟩ := owns_shape hown
    clear hown hbel hb0
    by_cases hlt : k < m.states.length
    · obtain ⟨b, o, rfl, hbB, hrow⟩ := HSR.out (by intro h; simp [h] at hlt)
      have hnode := (hrow.get k hlt).carry hbB HWR.out
      have HNX := hide (farNew_succ hlt)
      obtain ⟨x1, hx1⟩ : ∃ x1, x1 = m.states[k] := ⟨_, rfl⟩
      rw [← hx1] at hnode HNX
      obtain ⟨d0, d1⟩ := hnode
      clear hx1 hrow
      obtain ⟨z, hz⟩ : ∃ z : Int, (if x1.kind = 0 then (0 : Int) else -1) = z := ⟨_, rfl⟩
      have HZ : Hid (∀ y : Int, y = (if x1.kind = 0 then (0 : Int) else -1) → intV (farNew m (k + 1)) = intV (farNew m k) ++ [.int .i64 y]) := hide (by intro y hy; rw [HNX.out, hy]; simp [intV])
      clear hz z
      by_cases hk0 : x1.kind = 0
      · have HZ0 := hide (HZ.out 0 (by rw [if_pos hk0]))
        go_wp2_with (at_builtin; refine wpList_append_own _ rfl (.tmp 24) (.tmp 26) 127 rfl (w.heap.size + 1) 2 i0 (.int .i64 0) 1 8 Try.underlying127 HI.out.1 HI.out.2.1 HI.out.2.2.1 HI.out.2.2.2 rfl (by decide) (.slice p k cp) k (intV (farNew m k)) rfl (owns_below HOWN.out (malloc1 _ _)) ⟨wr.heap.size, 0, none⟩ 1 1 [.int .i64 0] rfl rfl (fun j u hj => new_row1 _ _ _ j u hj) (intV_one [0]) (by unfold maxLen; omega) (by omega) (by have := HBEL.out.size; simp at this; simp; omega) ?_; intro v4 w4 hown4 hgr4 _; have HOWN4 := hide hown4; have HGR4 := hide hgr4; clear hown4 hgr4)
        go_roundw
        case rel =>
          have hA : Apart wr w4 (vblocks (.slice p k cp)) := by
            have := (below_apart (malloc1 wr _)).trans (grownBy_apart HGR4.out)
            rwa [List.nil_append] at this
          refine ⟨k + 1, hlt, by go_num, ?_, HBEL.out.trans (hA.below (by have := HBEL.out.size; simpa using this) (owns_fresh HOWN.out).lo)⟩
          rw [HZ0.out]
          exact HOWN4.out
        case measure => simp [intOf]; omega
      · have HZ0 := hide (HZ.out (-1) (by rw [if_neg hk0]))
        go_wp2_with (at_builtin; refine wpList_append_own _ rfl (.tmp 24) (.tmp 26) 127 rfl (w.heap.size + 1) 2 i0 (.int .i64 0) 1 8 Try.underlying127 HI.out.1 HI.out.2.1 HI.out.2.2.1 HI.out.2.2.2 rfl (by decide) (.slice p k cp) k (intV (farNew m k)) rfl (owns_below HOWN.out (malloc1 _ _)) ⟨wr.heap.size, 0, none⟩ 1 1 [.int .i64 (-1)] rfl rfl (fun j u hj => new_row1 _ _ _ j u hj) (intV_one [-1]) (by unfold maxLen; omega) (by omega) (by have := HBEL.out.size; simp at this; simp; omega) ?_; intro v4 w4 hown4 hgr4 _; have HOWN4 := hide hown4; have HGR4 := hide hgr4; clear hown4 hgr4)
        go_roundw
        case rel =>
          have hA : Apart wr w4 (vblocks (.slice p k cp)) := by
            have := (below_apart (malloc1 wr _)).trans (grownBy_apart HGR4.out)
            rwa [List.nil_append] at this
          refine ⟨k + 1, hlt, by go_num, ?_, HBEL.out.trans (hA.below (by have := HBEL.out.size; simpa using this) (owns_fresh HOWN.out).lo)⟩
          rw [HZ0.out]
          exact HOWN4.out
        case measure => simp [intOf]; omega
    · obtain rfl : k = m.states.length := by omega
      have hn0 : 0 < m.states.length := by omega
      obtain ⟨g, rfl, hg1, hg2⟩ := owns_addr HOWN.out hn0
      obtain ⟨hf0, hf1⟩ := far_new m
      have HF0 := hide (And.intro hf0 hf1)
      have HED : Hid (∀ e ∈ m.edges, (0 ≤ e.src ∧ e.src < (m.states.length : Int)) ∧ 0 ≤ e.dst ∧ e.dst < (m.states.length : Int)) := hide (fun e he => by have := edge_bounds HM.out he; omega)
      clear hlt hf0 hf1
      go_wp2_with fail
      go_loopw [6] (fun i wr => ∃ r : Nat, r ≤ m.states.length ∧ i = .int .i64 r ∧ ∃ f, wr.ownsRow (w.heap.size + 1) 2 1 (.slice (some ⟨g, 0, none⟩) m.states.length cp) m.states.length (intV f) ∧ Far m f (r * 80) ∧ FarTo m f r ∧ Below (w.heap.size + 1) (w.alloc (.cells #[.slice sa m.states.length sc, .slice ea m.edges.length ec, .int .i64 m.start] 43)) wr) (fun i _ => m.states.length - (intOf i).toNat)
      case atStart => exact ⟨0, Nat.zero_le _, rfl, _, HOWN.out, by simpa using HF0.out.1, HF0.out.2, HBEL.out⟩
      case round =>
        clear HOWN HBEL HWR c0 c1 hlr hg2
        obtain ⟨r, hr, rfl, f, hown, hfar, hto, hbel⟩ := hrel
        have HOWN := hide hown
        have HBEL := hide hbel
        have HFAR := hide (And.intro hfar hto)
        obtain ⟨hb0, hlr, c0, c1⟩ := HLO.out _ hbel
        have HWR := hide hb0
        clear hown hbel hb0 hfar hto
        by_cases hlt : r < m.states.length
        · go_wp2_with fail
          go_loopw [7] (fun i wr => ∃ q : Nat, q ≤ m.edges.length ∧ i = .int .i64 q ∧ ∃ f, wr.ownsRow (w.heap.size + 1) 2 1 (.slice (some ⟨g, 0, none⟩) m.states.length cp) m.states.length (intV f) ∧ Far m f (r * 80 + q) ∧ FarTo m f r ∧ FarBy m f r q ∧ Below (w.heap.size + 1) (w.alloc (.cells #[.slice sa m.states.length sc, .slice ea m.edges.length ec, .int .i64 m.start] 43)) wr) (fun i _ => m.edges.length - (intOf i).toNat)
          case atStart => exact ⟨0, Nat.zero_le _, rfl, f, HOWN.out, by simpa using HFAR.out.1, HFAR.out.2, fun p hp => by omega, HBEL.out⟩
          case round =>
            clear HOWN HBEL HWR c0 c1 hlr HFAR f
            obtain ⟨q, hq, rfl, f, hown, hfar, hto, hby, hbel⟩ := hrel
            have HOWN := hide hown
            have HBEL := hide hbel
            have HFAR := hide (And.intro hfar (And.intro hto hby))
            obtain ⟨hb0, hlr, c0, c1⟩ := HLO.out _ hbel
            have HWR := hide hb0
            clear hown hbel hb0 hfar hto hby
            by_cases hqt : q < m.edges.length
            · obtain ⟨b, o, rfl, hbB, hrow⟩ := HER.out (by intro h; simp [h] at hqt)
              have hnode := (hrow.get q hqt).carry hbB HWR.out
              obtain ⟨x1, hx1⟩ : ∃ x1, x1 = m.edges[q] := ⟨_, rfl⟩
              have hmem : x1 ∈ m.edges := by rw [hx1]; exact List.getElem_mem hqt
              have HX1 := hide (show m.edges[q]? = some x1 by rw [hx1]; exact List.getElem?_eq_getElem hqt)
              rw [← hx1] at hnode
              obtain ⟨d0, d1, d2, d3⟩ := hnode
              obtain ⟨⟨hs0, hs1'⟩, hd0, hd1⟩ := HED.out x1 hmem
              have HREL := hide (relax_far HFAR.out.1 HFAR.out.2.1 HFAR.out.2.2 HX1.out ⟨hs0, hs1'⟩ ⟨hd0, hd1⟩ (fun e he => (HED.out e he).1.1))
              obtain ⟨zd, hzd⟩ : ∃ zd, fget f x1.dst = zd := ⟨_, rfl⟩
              obtain ⟨zs, hzs⟩ : ∃ zs, fget f x1.src = zs := ⟨_, rfl⟩
              have hgd : wr.cell? ⟨g, x1.dst.toNat, none⟩ = some (.int .i64 zd) := by rw [← hzd]; exact owns_cell HOWN.out rfl _ _ (intV_get hd0 (by rw [HFAR.out.1.len]; exact hd1))
              have hgs : wr.cell? ⟨g, x1.src.toNat, none⟩ = some (.int .i64 zs) := by rw [← hzs]; exact owns_cell HOWN.out rfl _ _ (intV_get hs0 (by rw [HFAR.out.1.len]; exact hs1'))
              have hgf := owns_free HOWN.out x1.src.toNat
              have hgl : g < wr.heap.size := by have := World.block_lt_of_cell? _ _ hgd; simpa using this
              have hzm : zd ≤ 10000 := by have := HFAR.out.1.most x1.dst; rw [hzd] at this; omega
              have hzn : -1 ≤ zd := by have := HFAR.out.1.sound x1.dst hd0 hd1; rw [hzd] at this; omega
              have HRX : Hid (relax f x1 = if decide (0 ≤ zd) && (decide (zs < 0) || decide (zd + 1 < zs)) then f.set x1.src.toNat (zd + 1) else f) := hide (by rw [relax, relaxB, hzd, hzs])
              clear hx1 hrow hmem hzd hzs
              by_cases hA : 0 ≤ zd
              · by_cases hS : zs < 0
                · go_wp2_with fail
                  refine wp_region_grown (by kernel_rfl) (by kernel_rfl) (fun W hW => ?_)
                  have hne := grown_some W
                  have k0 := grown_cell (w := W) (b := wr.heap.size) (o := 0) (v := .int .i64 x1.src) (by rw [hW]; simp)
                  have k3 := grown_cell (w := W) (b := wr.heap.size) (o := 3) (v := .int .i64 x1.dst) (by rw [hW]; simp)
                  have k4 := grown_cell (w := W) (b := g) (o := x1.dst.toNat) (v := .int .i64 zd) (by rw [hW]; exact (Below.cell (malloc1 _ _) (p := ⟨g, x1.dst.toNat, none⟩) hgl).trans hgd)
                  have k5 := grown_cell (w := W) (b := g) (o := x1.src.toNat) (v := .int .i64 zs) (by rw [hW]; exact (Below.cell (malloc1 _ _) (p := ⟨g, x1.src.toNat, none⟩) hgl).trans hgs)
                  have HBWW : Hid (Below wr.heap.size wr W) := hide (by rw [hW]; exact malloc1 _ _)
                  clear hW
                  have hA1 : decide (0 ≤ zd) = true := by simp; omega
                  have hA2 : decide (zs < 0) = true := by simp; omega
                  repeat (go_big_quiet_step (fail))
                  refine wpQuiet_nil ?_
                  intro w4 hw4
                  have HB4 : Hid (Below wr.heap.size wr w4) := hide (HBWW.out.trans (hw4.mono HBWW.out.size))
                  have n0 := k0 ⟨w4, hw4⟩
                  have n3 := k3 ⟨w4, hw4⟩
                  have n4 := k4 ⟨w4, hw4⟩
                  have n5 := k5 ⟨w4, hw4⟩
                  dsimp only at n0 n3 n4 n5
                  clear hw4 hne k0 k3 k4 k5
                  go_wp2_with fail
                  refine wp_region_tail 10 (by kernel_rfl) (by kernel_rfl) (fun W hW => ?_)
                  simp only [List.take_succ_cons, List.take_zero, List.drop_succ_cons, List.drop_zero]
                  have hne := grown_some W
                  have k0 := grown_cell (w := W) (b := wr.heap.size) (o := 0) (v := .int .i64 x1.src) (by rw [hW]; exact n0)
                  have k3 := grown_cell (w := W) (b := wr.heap.size) (o := 3) (v := .int .i64 x1.dst) (by rw [hW]; exact n3)
                  have k4 := grown_cell (w := W) (b := g) (o := x1.dst.toNat) (v := .int .i64 zd) (by rw [hW]; exact n4)
                  have k5 := grown_cell (w := W) (b := g) (o := x1.src.toNat) (v := .int .i64 zs) (by rw [hW]; exact n5)
                  have HB5 : Hid (Below wr.heap.size wr W) := hide (by rw [hW]; exact HB4.out)
                  clear hW n0 n3 n4 n5
                  repeat (go_big_quiet_step (fail))
                  refine wpQuiet_nil ?_
                  intro w5 hw5
                  have m5 := k5 ⟨w5, hw5⟩
                  dsimp only at m5
                  have HB6 : Hid (Below wr.heap.size wr w5) := hide (HB5.out.trans (hw5.mono HB5.out.size))
                  have HO6 := hide (owns_below HOWN.out HB6.out)
                  have m6 := owns_free HO6.out x1.src.toNat
                  clear hw5 hne k0 k3 k4 k5 hgf hgs hgd
                  go_wp2_with fail
                  go_roundw
                  case rel =>
                    have hre : relax f x1 = f.set x1.src.toNat (zd + 1) := by rw [HRX.out, if_pos (by simp; omega)]
                    have hrr := HREL.out
                    rw [hre] at hrr
                    have ho := owns_set HO6.out x1.src.toNat (.int .i64 (zd + 1))
                    rw [show (intV f).set x1.src.toNat (.int .i64 (zd + 1)) = intV (f.set x1.src.toNat (zd + 1)) by simp [intV]] at ho
                    exact ⟨q + 1, hqt, by go_num, _, ho, hrr.1, hrr.2.1, hrr.2.2, (HBEL.out.trans (HB6.out.mono (by have := HBEL.out.size; simpa using this))).setCell (p := ⟨g, x1.src.toNat, none⟩) hg1 _⟩
                  case measure => simp [intOf]; omega
                · by_cases hC : zd + 1 < zs
                  · go_wp2_with fail
                    refine wp_region_grown (by kernel_rfl) (by kernel_rfl) (fun W hW => ?_)
                    have hne := grown_some W
                    have k0 := grown_cell (w := W) (b := wr.heap.size) (o := 0) (v := .int .i64 x1.src) (by rw [hW]; simp)
                    have k3 := grown_cell (w := W) (b := wr.heap.size) (o := 3) (v := .int .i64 x1.dst) (by rw [hW]; simp)
                    have k4 := grown_cell (w := W) (b := g) (o := x1.dst.toNat) (v := .int .i64 zd) (by rw [hW]; exact (Below.cell (malloc1 _ _) (p := ⟨g, x1.dst.toNat, none⟩) hgl).trans hgd)
                    have k5 := grown_cell (w := W) (b := g) (o := x1.src.toNat) (v := .int .i64 zs) (by rw [hW]; exact (Below.cell (malloc1 _ _) (p := ⟨g, x1.src.toNat, none⟩) hgl).trans hgs)
                    have HBWW : Hid (Below wr.heap.size wr W) := hide (by rw [hW]; exact malloc1 _ _)
                    clear hW
                    have hA1 : decide (0 ≤ zd) = true := by simp; omega
                    have hA2 : decide (zs < 0) = false := by simp; omega
                    have hA3 : decide (zd + 1 < zs) = true := by simp; omega
                    repeat (go_big_quiet_step (fail))
                    refine wpQuiet_nil ?_
                    intro w4 hw4
                    have HB4 : Hid (Below wr.heap.size wr w4) := hide (HBWW.out.trans (hw4.mono HBWW.out.size))
                    have n0 := k0 ⟨w4, hw4⟩
                    have n3 := k3 ⟨w4, hw4⟩
                    have n4 := k4 ⟨w4, hw4⟩
                    have n5 := k5 ⟨w4, hw4⟩
                    dsimp only at n0 n3 n4 n5
                    clear hw4 hne k0 k3 k4 k5
                    go_wp2_with fail
                    refine wp_region_tail 10 (by kernel_rfl) (by kernel_rfl) (fun W hW => ?_)
                    simp only [List.take_succ_cons, List.take_zero, List.drop_succ_cons, List.drop_zero]
                    have hne := grown_some W
                    have k0 := grown_cell (w := W) (b := wr.heap.size) (o := 0) (v := .int .i64 x1.src) (by rw [hW]; exact n0)
                    have k3 := grown_cell (w := W) (b := wr.heap.size) (o := 3) (v := .int .i64 x1.dst) (by rw [hW]; exact n3)
                    have k4 := grown_cell (w := W) (b := g) (o := x1.dst.toNat) (v := .int .i64 zd) (by rw [hW]; exact n4)
                    have k5 := grown_cell (w := W) (b := g) (o := x1.src.toNat) (v := .int .i64 zs) (by rw [hW]; exact n5)
                    have HB5 : Hid (Below wr.heap.size wr W) := hide (by rw [hW]; exact HB4.out)
                    clear hW n0 n3 n4 n5
                    repeat (go_big_quiet_step (fail))
                    refine wpQuiet_nil ?_
                    intro w5 hw5
                    have m5 := k5 ⟨w5, hw5⟩
                    dsimp only at m5
                    have HB6 : Hid (Below wr.heap.size wr w5) := hide (HB5.out.trans (hw5.mono HB5.out.size))
                    have HO6 := hide (owns_below HOWN.out HB6.out)
                    have m6 := owns_free HO6.out x1.src.toNat
                    clear hw5 hne k0 k3 k4 k5 hgf hgs hgd
                    go_wp2_with fail
                    go_roundw
                    case rel =>
                      have hre : relax f x1 = f.set x1.src.toNat (zd + 1) := by rw [HRX.out, if_pos (by simp; omega)]
                      have hrr := HREL.out
                      rw [hre] at hrr
                      have ho := owns_set HO6.out x1.src.toNat (.int .i64 (zd + 1))
                      rw [show (intV f).set x1.src.toNat (.int .i64 (zd + 1)) = intV (f.set x1.src.toNat (zd + 1)) by simp [intV]] at ho
                      exact ⟨q + 1, hqt, by go_num, _, ho, hrr.1, hrr.2.1, hrr.2.2, (HBEL.out.trans (HB6.out.mono (by have := HBEL.out.size; simpa using this))).setCell (p := ⟨g, x1.src.toNat, none⟩) hg1 _⟩
                    case measure => simp [intOf]; omega
                  · go_wp2_with fail
                    refine wp_region_grown (by kernel_rfl) (by kernel_rfl) (fun W hW => ?_)
                    have hne := grown_some W
                    have k0 := grown_cell (w := W) (b := wr.heap.size) (o := 0) (v := .int .i64 x1.src) (by rw [hW]; simp)
                    have k3 := grown_cell (w := W) (b := wr.heap.size) (o := 3) (v := .int .i64 x1.dst) (by rw [hW]; simp)
                    have k4 := grown_cell (w := W) (b := g) (o := x1.dst.toNat) (v := .int .i64 zd) (by rw [hW]; exact (Below.cell (malloc1 _ _) (p := ⟨g, x1.dst.toNat, none⟩) hgl).trans hgd)
                    have k5 := grown_cell (w := W) (b := g) (o := x1.src.toNat) (v := .int .i64 zs) (by rw [hW]; exact (Below.cell (malloc1 _ _) (p := ⟨g, x1.src.toNat, none⟩) hgl).trans hgs)
                    have HBWW : Hid (Below wr.heap.size wr W) := hide (by rw [hW]; exact malloc1 _ _)
                    clear hW
                    have hA1 : decide (0 ≤ zd) = true := by simp; omega
                    have hA2 : decide (zs < 0) = false := by simp; omega
                    have hA3 : decide (zd + 1 < zs) = false := by simp; omega
                    repeat (go_big_quiet_step (fail))
                    refine wpQuiet_nil ?_
                    intro w4 hw4
                    have HB4 : Hid (Below wr.heap.size wr w4) := hide (HBWW.out.trans (hw4.mono HBWW.out.size))
                    clear hw4 hne k0 k3 k4 k5
                    go_wp2_with fail
                    go_roundw
                    case rel =>
                      have hre : relax f x1 = f := by rw [HRX.out]; simp; omega
                      have hrr := HREL.out
                      rw [hre] at hrr
                      exact ⟨q + 1, hqt, by go_num, f, owns_below HOWN.out HB4.out, hrr.1, hrr.2.1, hrr.2.2, HBEL.out.trans (HB4.out.mono (by have := HBEL.out.size; simpa using this))⟩
                    case measure => simp [intOf]; omega
              · go_wp2_with fail
                refine wp_region_grown (by kernel_rfl) (by kernel_rfl) (fun W hW => ?_)
                have hne := grown_some W
                have k0 := grown_cell (w := W) (b := wr.heap.size) (o := 0) (v := .int .i64 x1.src) (by rw [hW]; simp)
                have k3 := grown_cell (w := W) (b := wr.heap.size) (o := 3) (v := .int .i64 x1.dst) (by rw [hW]; simp)
                have k4 := grown_cell (w := W) (b := g) (o := x1.dst.toNat) (v := .int .i64 zd) (by rw [hW]; exact (Below.cell (malloc1 _ _) (p := ⟨g, x1.dst.toNat, none⟩) hgl).trans hgd)
                have k5 := grown_cell (w := W) (b := g) (o := x1.src.toNat) (v := .int .i64 zs) (by rw [hW]; exact (Below.cell (malloc1 _ _) (p := ⟨g, x1.src.toNat, none⟩) hgl).trans hgs)
                have HBWW : Hid (Below wr.heap.size wr W) := hide (by rw [hW]; exact malloc1 _ _)
                clear hW
                have hA1 : decide (0 ≤ zd) = false := by simp; omega
                repeat (go_big_quiet_step (fail))
                refine wpQuiet_nil ?_
                intro w4 hw4
                have HB4 : Hid (Below wr.heap.size wr w4) := hide (HBWW.out.trans (hw4.mono HBWW.out.size))
                clear hw4 hne k0 k3 k4 k5
                go_wp2_with fail
                go_roundw
                case rel =>
                  have hre : relax f x1 = f := by rw [HRX.out]; simp; omega
                  have hrr := HREL.out
                  rw [hre] at hrr
                  exact ⟨q + 1, hqt, by go_num, f, owns_below HOWN.out HB4.out, hrr.1, hrr.2.1, hrr.2.2, HBEL.out.trans (HB4.out.mono (by have := HBEL.out.size; simpa using this))⟩
                case measure => simp [intOf]; omega
            · have hqe : q = m.edges.length := by omega
              go_wp2_with fail
              go_roundw
              case rel =>
                refine ⟨r + 1, hlt, by go_num, f, HOWN.out, ⟨HFAR.out.1.len, HFAR.out.1.sound, fun i => by have := HFAR.out.1.most i; omega⟩, far_round HFAR.out.2.1 (hqe ▸ HFAR.out.2.2), HBEL.out⟩
              case measure => simp [intOf]; omega
        · have hre : r = m.states.length := by omega
          go_wp2_with fail
          go_ret
          exact ⟨g, cp, f, r * 80, rfl, fun i x hx => owns_cell HOWN.out rfl i x hx, HFAR.out.1, hre ▸ HFAR.out.2, HWR.out⟩
end Go.Proofs.Ytcdlceldokhnbaa
