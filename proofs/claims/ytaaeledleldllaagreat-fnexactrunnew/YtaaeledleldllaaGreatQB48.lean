import Derived.Test.YtaaeledleldllaaGreatQB47
import Derived.Test.YtaaeledleldllaaGreatQB08
import Derived.Test.YtaaeledleldllaaGreatQB22
import Derived.Test.YtaaeledleldllaaGreatQB39
namespace Go.Proofs.YtaaeledleldllaaGreat
open Go.RowKit

theorem nums_keep {w w' : World} {B B' : Nat} {v : Value} {l : List Int} (h : NumSl w B v l) (hB : B ≤ B') (hk : ∀ b, v.ownBlock = some b → b < B → w'.heap[b]? = w.heap[b]?) : NumSl w' B' v l := by
  obtain ⟨ao, cap, rfl, h2, h3, h4⟩ := h
  refine ⟨ao, cap, rfl, h2, h3, fun hne => ?_⟩
  obtain ⟨b, o, rfl, hlt, hr⟩ := h4 hne
  exact ⟨b, o, rfl, by omega, fun j hj => (World.cell?_of_block (a := ⟨b, _, none⟩) (hk b rfl hlt)).trans (hr j hj)⟩
theorem set4_apart (w : World) (b : Nat) (y0 y1 y2 y3 : Value) : Apart w ((((w.setCell ⟨b, 0, none⟩ y0).setCell ⟨b, 1, none⟩ y1).setCell ⟨b, 2, none⟩ y2).setCell ⟨b, 3, none⟩ y3) [b] :=
  Apart.setCell (Apart.setCell (Apart.setCell (setCell_apart w b 0 y0) 1 y1) 2 y2) 3 y3
set_option maxRecDepth 100000 in
set_option maxHeartbeats 2000000 in
theorem to_run (r : Rn) (pa : Option Addr) (pc : Nat) (sa : Option Addr) (sc : Nat) (na : Option Addr) (nc : Nat) (w : World) (h : RnArg w pa pc sa sc na nc r) (hf : r.fit) :
    Calls Tryz.prog 15 #[rnV (.slice pa r.plan.length pc) (.slice sa r.states.length sc) (.slice na r.net.length nc) r.steps] w fun e w' => ∃ v', e = .returned v' ∧ RnAt w' v' r ∧ Below w.heap.size w w' := by
  have H := hide h
  have HF := hide hf
  have HW : Hid (∀ (o1 o2 o3 : Obj), Below w.heap.size w (((w.alloc o1).alloc o2).alloc o3)) := hide (fun o1 o2 o3 => ((malloc1 _ _).trans ((malloc1 _ _).mono (by simp))).trans ((malloc1 _ _).mono (by simp; omega)))
  have HXA : Hid (∀ (o2 o3 : Obj), BoxL (((w.alloc (.cells (rnC (.slice pa r.plan.length pc) (.slice sa r.states.length sc) (.slice na r.net.length nc) r.steps).toArray 32)).alloc o2).alloc o3) w.heap.size (rnC (.slice pa r.plan.length pc) (.slice sa r.states.length sc) (.slice na r.net.length nc) r.steps)) := hide (fun o2 o3 => ((BoxL.new w _ _).keep (below_apart (malloc1 _ _)) (by simp)).keep (below_apart (malloc1 _ _)) (by simp))
  have HXB : Hid (∀ (o1 o3 : Obj), BoxL (((w.alloc o1).alloc (.cells (rnC (.slice none 0 0) (.slice none 0 0) (.slice none 0 0) 0).toArray 37)).alloc o3) (w.heap.size + 1) (rnC (.slice none 0 0) (.slice none 0 0) (.slice none 0 0) 0)) := hide (fun o1 o3 => by
    have := (BoxL.new (w.alloc o1) (rnC (.slice none 0 0) (.slice none 0 0) (.slice none 0 0) 0) 37).keep (below_apart (malloc1 _ o3)) (by simp)
    simpa using this)
  have HXC : Hid (∀ (o1 o2 : Obj), BoxL (((w.alloc o1).alloc o2).alloc (.cells (rnC (.slice none 0 0) (.slice none 0 0) (.slice none 0 0) 0).toArray 37)) (w.heap.size + 2) (rnC (.slice none 0 0) (.slice none 0 0) (.slice none 0 0) 0)) := hide (fun o1 o2 => by
    have := BoxL.new ((w.alloc o1).alloc o2) (rnC (.slice none 0 0) (.slice none 0 0) (.slice none 0 0) 0) 37
    simpa using this)
  clear h hf
  unfold rnV rnC at *
  go_enter Tryz.func15, Tryz.ntmps15
  go_wp2_with (first
    | (go_at_call 47; refine (msgs_to r.net na nc _ HF.out.2.2.1 (H.out.carry HB2s.out).nr).mono ?_; rintro e w3 ⟨v3, rfl, hs3, hf3, hb3⟩; have HS3 := hide hs3; have HF3 := hide hf3; obtain ⟨a3, cc3, rfl, -⟩ := hs3; have HB3 := hide hb3; have A3 := HA2.out.keep (below_apart hb3) (by simp); have B3 := HBx2.out.keep (below_apart hb3) (by simp); have C3 := HC2.out.keep (below_apart hb3) (by simp); have x3 := A3.cell 3 _ rfl; have c0 := C3.cell 0 _ rfl; have c1 := C3.cell 1 _ rfl; have c2 := C3.cell 2 _ rfl; have c3 := C3.cell 3 _ rfl; have fc := C3.fz; have b0 := B3.cell 0 _ rfl; have b1 := B3.cell 1 _ rfl; have b2 := B3.cell 2 _ rfl; have b3 := B3.cell 3 _ rfl; have fb := B3.fz; clear hb3 hf3 A3)
    | (go_at_call 46; refine (to_nums r.states sa sc _ HF.out.2.1 (H.out.carry HB1s.out).sr).mono ?_; rintro e w2 ⟨v2, rfl, hs2, ho2, hb2⟩; have HS2 := hide hs2; have HO2 := hide ho2; obtain ⟨a2, cc2, rfl, -⟩ := hs2; have HB2 := hide hb2; have hz2 : w.heap.size + 3 ≤ w2.heap.size := (by have := hb2.size; simp at this; omega); have HA2s : Hid (Apart w2 (w2.setCell ⟨w.heap.size + 2, 1, none⟩ (.slice a2 r.states.length cc2)) [w.heap.size + 2]) := hide (setCell_apart _ _ _ _); have HB2s : Hid (Below w.heap.size w (w2.setCell ⟨w.heap.size + 2, 1, none⟩ (.slice a2 r.states.length cc2))) := hide ((HB1s.out.trans (hb2.mono HB1s.out.size)).setCell (p := ⟨w.heap.size + 2, 1, none⟩) (by simp) _); have A2 := HA1.out.keep (below_apart hb2) (by simp); have C2 := HC1.out.keep (below_apart hb2) (by simp); have HA2 := hide (A2.keep HA2s.out (by simp)); have HBx2 := hide ((HBx1.out.keep (below_apart hb2) (by simp)).keep HA2s.out (by simp)); have HC2 := hide (C2.set 1 (by simp) (.slice a2 r.states.length cc2)); have x2 := A2.cell 2 _ rfl; have z1 := C2.cell 1 _ rfl; have fz2 := C2.fz; clear hb2 ho2 A2 C2)
    | (go_at_call 10; refine (to_nodes_own r.plan pa pc _ HF.out.1.1 (H.out.carry (HW.out _ _ _)).pr).mono ?_; rintro e w1 ⟨v1, rfl, hs1, ho1, hb1⟩; have HS1 := hide hs1; have HO1 := hide ho1; obtain ⟨a1, cc1, rfl, -⟩ := hs1; have A1 := (HXA.out _ _).keep (below_apart hb1) (by simp); have B1 := (HXB.out _ _).keep (below_apart hb1) (by simp); have C1 := (HXC.out _ _).keep (below_apart hb1) (by simp); have HB1 : Hid (Below w.heap.size w w1) := hide ((HW.out _ _ _).trans (hb1.mono (HW.out _ _ _).size)); have hz1 : w.heap.size + 3 ≤ w1.heap.size := (by have := hb1.size; simp at this; omega); have HB1s : Hid (Below w.heap.size w (w1.setCell ⟨w.heap.size + 2, 0, none⟩ (.slice a1 r.plan.length cc1))) := hide (HB1.out.setCell (p := ⟨w.heap.size + 2, 0, none⟩) (by simp) _); have HA1s : Hid (Apart w1 (w1.setCell ⟨w.heap.size + 2, 0, none⟩ (.slice a1 r.plan.length cc1)) [w.heap.size + 2]) := hide (setCell_apart _ _ _ _); have HA1 := hide (A1.keep HA1s.out (by simp)); have HBx1 := hide (B1.keep HA1s.out (by simp)); have HC1 := hide (C1.set 0 (by simp) (.slice a1 r.plan.length cc1)); have x1 := A1.cell 1 _ rfl; have z0 := C1.cell 0 _ rfl; have fz := C1.fz; clear hb1 ho1 A1 B1 C1))
  have hA3 : Apart w3 ((w3.setCell ⟨w.heap.size + 2, 2, none⟩ (.slice a3 r.net.length cc3)).setCell ⟨w.heap.size + 2, 3, none⟩ (.int .i64 r.steps)) [w.heap.size + 2] := Apart.setCell (setCell_apart _ _ _ _) 3 _
  have hA := hA3.trans (set4_apart _ (w.heap.size + 1) (.slice a1 r.plan.length cc1) (.slice a2 r.states.length cc2) (.slice a3 r.net.length cc3) (.int .i64 r.steps))
  have hX := ((((B3.keep hA3 (by simp)).set 0 (by simp) (.slice a1 r.plan.length cc1)).set 1 (by simp) (.slice a2 r.states.length cc2)).set 2 (by simp) (.slice a3 r.net.length cc3)).set 3 (by simp) (.int .i64 r.steps)
  obtain ⟨W, hW⟩ : ∃ W, W = ((((((w3.setCell ⟨w.heap.size + 2, 2, none⟩ (.slice a3 r.net.length cc3)).setCell ⟨w.heap.size + 2, 3, none⟩ (.int .i64 r.steps)).setCell ⟨w.heap.size + 1, 0, none⟩ (.slice a1 r.plan.length cc1)).setCell ⟨w.heap.size + 1, 1, none⟩ (.slice a2 r.states.length cc2)).setCell ⟨w.heap.size + 1, 2, none⟩ (.slice a3 r.net.length cc3)).setCell ⟨w.heap.size + 1, 3, none⟩ (.int .i64 r.steps)) := ⟨_, rfl⟩
  rw [← hW] at hA hX ⊢
  have k0 := hX.cell 0 _ rfl
  have k1 := hX.cell 1 _ rfl
  have k2 := hX.cell 2 _ rfl
  have k3 := hX.cell 3 _ rfl
  have hz : w.heap.size + 3 ≤ w3.heap.size := by have := HB3.out.size; simp at this; omega
  have hbW : Below w.heap.size w W := (HB2s.out.trans (HB3.out.mono HB2s.out.size)).trans (hA.below (by omega) (fun b hb => by simp at hb; omega))
  have hA2 : Apart w2 W ([w.heap.size + 2] ++ ([] ++ ([w.heap.size + 2] ++ [w.heap.size + 1]))) := HA2s.out.trans ((below_apart HB3.out).trans hA)
  have hA1 := HA1s.out.trans ((below_apart HB2.out).trans hA2)
  have hlo : ∀ b ∈ vblocks (.slice a1 r.plan.length cc1), w.heap.size + 3 ≤ b := fun b hb => by
    have := (HO1.out.free b ((own_blocks rfl).2 hb)).1
    simpa using this
  refine bodyPost_ret_by (v := .agg #[.slice a1 r.plan.length cc1, .slice a2 r.states.length cc2, .slice a3 r.net.length cc3, .int .i64 r.steps]) ?_ rfl ⟨_, rfl, ⟨⟨_, _, _, _, _, _, rfl, ?_, ?_, ?_⟩⟩, hbW⟩
  · unfold results
    go_simp
  · exact (slat_keep HS1.out hA1 (fun b hb hm => by have := hlo b hb; simp at hm; omega) (Nat.le_refl _)).up hA1.size
  · exact nums_keep HS2.out hA2.size (fun b hb hlt => hA2.block b hlt (fun hm => by have := (HO2.out.free b hb).1; simp at this hm; omega))
  · exact HS3.out.keep hA.size (fun b hb hlt => hA.block b hlt (fun hm => by have := HF3.out.lo b ((own_blocks rfl).1 hb); simp at this hm; omega))
end Go.Proofs.YtaaeledleldllaaGreat
namespace Go.Proofs.YtaaeledleldllaaGreat
open Go.RowKit Go.ChangeShapes Go.WideShapes

theorem Tryz.cRn : Tryz.prog.cellsOf 32 = 4 := by kernel_rfl
theorem Tryz.cNds2 : Tryz.prog.cellsOf 22 = 1 := by kernel_rfl
theorem Tryz.cI64s : Tryz.prog.cellsOf 29 = 1 := by kernel_rfl
theorem Tryz.cMsgs : Tryz.prog.cellsOf 30 = 1 := by kernel_rfl
theorem wf_i64 {z : Int} (h : (Lit.int .i64 z).wf = true) : -9223372036854775808 ≤ z ∧ z ≤ 9223372036854775807 := by
  simp [Lit.wf, IntKind.min, IntKind.max, IntKind.signed, IntKind.bits] at h
  exact h
theorem open_run {H : Type} {enc : TypeId × Value → H} {w : World} {base : Nat} {spare : Nat → Bool} {held : Bool} {fuel : Nat} {cs : Array Value} {x : DataW H × List MemPlace} (hsz : cs.size = Tryz.prog.cellsOf 32) (h : DataW.trod enc Tryz.prog w base spare held fuel 32 cs.toList = some x) :
    ∃ r pa pc sa sc na nc, Value.agg cs = rnV (.slice pa r.plan.length pc) (.slice sa r.states.length sc) (.slice na r.net.length nc) r.steps ∧ RnArg w pa pc sa sc na nc r := by
  rw [Tryz.cRn] at hsz
  obtain ⟨l⟩ := cs
  match l, hsz with
  | [a, b, c, d], _ =>
    obtain ⟨xs, n, _, _, hl, hlen, hf⟩ := DataW.trod_struct Tryz.underlying32 h
    have hx4 : xs.length = 4 := hlen
    match xs, hx4 with
    | [y0, y1, y2, y3], _ =>
      have g0 : DataW.trod enc Tryz.prog w base spare held n 22 (([a, b, c, d].drop 0).take (Tryz.prog.cellsOf 22)) = some y0 := hf 0 _ rfl
      have g1 : DataW.trod enc Tryz.prog w base spare held n 29 (([a, b, c, d].drop 1).take (Tryz.prog.cellsOf 29)) = some y1 := hf 1 _ rfl
      have g2 : DataW.trod enc Tryz.prog w base spare held n 30 (([a, b, c, d].drop 2).take (Tryz.prog.cellsOf 30)) = some y2 := hf 2 _ rfl
      have g3 : DataW.trod enc Tryz.prog w base spare held n 2 (([a, b, c, d].drop 3).take (Tryz.prog.cellsOf 2)) = some y3 := hf 3 _ rfl
      rw [Tryz.cNds2] at g0
      rw [Tryz.cI64s] at g1
      rw [Tryz.cMsgs] at g2
      rw [Tryz.cI] at g3
      simp only [List.drop_zero, List.drop_succ_cons, List.take_succ_cons, List.take_zero] at g0 g1 g2 g3
      obtain ⟨pa, pl, pc, rfl⟩ := slice_shape Tryz.underlying22 g0
      obtain ⟨sa, sl, sc, rfl⟩ := slice_shape Tryz.underlying29 g1
      obtain ⟨na, nl, nc, rfl⟩ := slice_shape Tryz.underlying30 g2
      obtain ⟨z, e3, _, k3⟩ := DataW.trod_int Tryz.underlying2 g3
      obtain ⟨ns, rfl, p1, p2, p3⟩ := open_nodes g0
      obtain ⟨ss, rfl, s1, s2, s3⟩ := open_nums g1
      obtain ⟨ms, rfl, m1, m2, m3⟩ := open_msgs g2
      have hz : d = .int .i64 z := by simpa using e3
      subst hz
      exact ⟨⟨ns, ss, ms, z⟩, pa, pc, sa, sc, na, nc, rfl, ⟨p1, p2, p3, s2, s3, m1, m2, m3, s1, wf_i64 k3⟩⟩
end Go.Proofs.YtaaeledleldllaaGreat
