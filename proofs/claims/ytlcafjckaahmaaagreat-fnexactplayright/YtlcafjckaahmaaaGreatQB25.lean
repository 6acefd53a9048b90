/- toPlay: the Play that the law makes. -/
import Derived.Test.YtlcafjckaahmaaaGreatQB24
import Derived.Test.YtlcafjckaahmaaaGreatQB22
import Derived.Test.YtlcafjckaahmaaaGreatQB08
namespace Go.Proofs.YtlcafjckaahmaaaGreat
open Go.RowKit

theorem rowat_block {w w' : World} {g : Nat} (hb : w'.heap[g]? = w.heap[g]?) : ∀ {l : List Nd} {o : Nat}, RowAt w g o l → RowAt w' g o l
  | [], _, _ => trivial
  | _ :: _, _, ⟨⟨h0, h1, h2, h3, h4⟩, hr⟩ => ⟨⟨(World.cell?_of_block (a := ⟨g, _, none⟩) hb).trans h0, (World.cell?_of_block (a := ⟨g, _, none⟩) hb).trans h1, (World.cell?_of_block (a := ⟨g, _, none⟩) hb).trans h2, (World.cell?_of_block (a := ⟨g, _, none⟩) hb).trans h3, (World.cell?_of_block (a := ⟨g, _, none⟩) hb).trans h4⟩, rowat_block hb hr⟩
theorem slat_keep {w w' : World} {B : Nat} {v : Value} {ns : List Nd} {l : List Nat} (h : SlAt w B v ns) (ha : Apart w w' l) (hd : ∀ b ∈ vblocks v, b ∉ l) (hB : B ≤ w.heap.size) : SlAt w' B v ns := by
  obtain ⟨ao, cap, rfl, hc, hm, hr⟩ := h
  refine ⟨ao, cap, rfl, hc, hm, fun hne => ?_⟩
  obtain ⟨b, o, rfl, hlt, hrow⟩ := hr hne
  exact ⟨b, o, rfl, hlt, rowat_block (ha.block b (Nat.lt_of_lt_of_le hlt hB) (hd b (by simp [vblocks, cellBlocks]))) hrow⟩
theorem set5_apart (w : World) (b : Nat) (y0 y1 y2 y3 y4 : Value) : Apart w (((((w.setCell ⟨b, 0, none⟩ y0).setCell ⟨b, 1, none⟩ y1).setCell ⟨b, 2, none⟩ y2).setCell ⟨b, 3, none⟩ y3).setCell ⟨b, 4, none⟩ y4) [b] :=
  Apart.setCell (Apart.setCell (Apart.setCell (Apart.setCell (setCell_apart w b 0 y0) 1 y1) 2 y2) 3 y3) 4 y4
set_option maxRecDepth 100000 in
set_option maxHeartbeats 2000000 in
theorem to_play (p : Pla) (pa : Option Addr) (pc : Nat) (sa : Option Addr) (sc : Nat) (ea : Option Addr) (ec : Nat) (w : World) (h : PlaArg w pa pc sa sc ea ec p) (hf : p.fit) :
    Calls Tryz.prog 28 #[plaV (.slice pa p.plan.length pc) p.role (.slice sa p.table.states.length sc) (.slice ea p.table.edges.length ec) p.table.start] w fun e w' => ∃ v', e = .returned v' ∧ PlaAt w' v' p ∧ Below w.heap.size w w' := by
  have H := hide h
  have HF := hide hf
  have HW : Hid (∀ (o1 o2 o3 : Obj), Below w.heap.size w (((w.alloc o1).alloc o2).alloc o3)) := hide (fun o1 o2 o3 => ((malloc1 _ _).trans ((malloc1 _ _).mono (by simp))).trans ((malloc1 _ _).mono (by simp; omega)))
  have HXA : Hid (∀ (o2 o3 : Obj), BoxL (((w.alloc (.cells (plaC (.slice pa p.plan.length pc) p.role (.slice sa p.table.states.length sc) (.slice ea p.table.edges.length ec) p.table.start).toArray 53)).alloc o2).alloc o3) w.heap.size (plaC (.slice pa p.plan.length pc) p.role (.slice sa p.table.states.length sc) (.slice ea p.table.edges.length ec) p.table.start)) := hide (fun o2 o3 => ((BoxL.new w _ _).keep (below_apart (malloc1 _ _)) (by simp)).keep (below_apart (malloc1 _ _)) (by simp))
  have HXB : Hid (∀ (o1 o3 : Obj), BoxL (((w.alloc o1).alloc (.cells (plaC (.slice none 0 0) ByteArray.empty (.slice none 0 0) (.slice none 0 0) 0).toArray 61)).alloc o3) (w.heap.size + 1) (plaC (.slice none 0 0) ByteArray.empty (.slice none 0 0) (.slice none 0 0) 0)) := hide (fun o1 o3 => by
    have := (BoxL.new (w.alloc o1) (plaC (.slice none 0 0) ByteArray.empty (.slice none 0 0) (.slice none 0 0) 0) 61).keep (below_apart (malloc1 _ o3)) (by simp)
    simpa using this)
  have HXC : Hid (∀ (o1 o2 : Obj), BoxL (((w.alloc o1).alloc o2).alloc (.cells (plaC (.slice none 0 0) ByteArray.empty (.slice none 0 0) (.slice none 0 0) 0).toArray 61)) (w.heap.size + 2) (plaC (.slice none 0 0) ByteArray.empty (.slice none 0 0) (.slice none 0 0) 0)) := hide (fun o1 o2 => by
    have := BoxL.new ((w.alloc o1).alloc o2) (plaC (.slice none 0 0) ByteArray.empty (.slice none 0 0) (.slice none 0 0) 0) 61
    simpa using this)
  have hadd : w.heap.size + 1 + 1 = w.heap.size + 2 := rfl
  obtain ⟨role, hrole⟩ : ∃ role, role = p.role := ⟨_, rfl⟩
  rw [← hrole] at HXA ⊢
  have HRO := hide hrole
  clear h hf hrole
  unfold plaV plaC at *
  go_enter Tryz.func28, Tryz.ntmps28
  go_wp2_with (first
    | (go_at_call 65; refine (mach_to p.table sa sc ea ec _ (H.out.ma.carry HB1s.out) HF.out.2.2).mono ?_; rintro e w2 ⟨v2, rfl, hs2, hf2, hb2⟩; have HS2 := hide hs2; have HF2 := hide hf2; obtain ⟨sv2, ev2, rfl, ⟨sa2, sc2, rfl, -⟩, ⟨ea2, ec2, rfl, -⟩⟩ := hs2; have HB2 := hide hb2; have B2 := HB1c.out.keep (below_apart hb2) (by simp); have C2 := HC1c.out.keep (below_apart hb2) (by simp); have b0 := B2.cell 0 _ rfl; have b1 := B2.cell 1 _ rfl; have b2 := B2.cell 2 _ rfl; have b3 := B2.cell 3 _ rfl; have b4 := B2.cell 4 _ rfl; have fb := B2.fz; have c0 := C2.cell 0 _ rfl; have c1 := C2.cell 1 _ rfl; have c2 := C2.cell 2 _ rfl; have c3 := C2.cell 3 _ rfl; have c4 := C2.cell 4 _ rfl; have fc := C2.fz; clear hb2)
    | (go_at_call 10; refine (to_nodes_own p.plan pa pc _ HF.out.1.1 (H.out.carry (HW.out _ _ _)).pr).mono ?_; rintro e w1 ⟨v1, rfl, hs1, ho1, hb1⟩; have HS1 := hide hs1; have HO1 := hide ho1; obtain ⟨a1, cc1, rfl, -⟩ := hs1; have A1 := (HXA.out _ _).keep (below_apart hb1) (by simp); have B1 := (HXB.out _ _).keep (below_apart hb1) (by simp); have C1 := (HXC.out _ _).keep (below_apart hb1) (by simp); have HB1 : Hid (Below w.heap.size w w1) := hide ((HW.out _ _ _).trans (hb1.mono (HW.out _ _ _).size)); have hz1 : w.heap.size + 3 ≤ w1.heap.size := (by have := hb1.size; simp at this; omega); have HB1s : Hid (Below w.heap.size w ((w1.setCell ⟨w.heap.size + 2, 0, none⟩ (.slice a1 p.plan.length cc1)).setCell ⟨w.heap.size + 2, 1, none⟩ (.string role))) := hide ((HB1.out.setCell (p := ⟨w.heap.size + 2, 0, none⟩) (by simp) _).setCell (p := ⟨w.heap.size + 2, 1, none⟩) (by simp) _); have HBA : Hid (Apart w1 ((w1.setCell ⟨w.heap.size + 2, 0, none⟩ (.slice a1 p.plan.length cc1)).setCell ⟨w.heap.size + 2, 1, none⟩ (.string role)) [w.heap.size + 2]) := hide (Apart.setCell (setCell_apart _ _ _ _) 1 _); have HB1c := hide (B1.keep HBA.out (by simp)); have HC1c := hide ((C1.set 0 (by simp) (.slice a1 p.plan.length cc1)).set 1 (by simp) (.string role)); have A1c := A1.keep HBA.out (by simp); have x0 := A1.cell 0 _ rfl; have x1 := A1.cell 1 _ rfl; have x2 := A1.cell 2 _ rfl; have x3 := A1.cell 3 _ rfl; have x4 := A1.cell 4 _ rfl; have z0 := C1.cell 0 _ rfl; have z1 := C1.cell 1 _ rfl; have fz := C1.fz; clear hb1 ho1 A1 B1 C1 A1c))
  have hA3 : Apart w2 (((w2.setCell ⟨w.heap.size + 2, 2, none⟩ (.slice sa2 p.table.states.length sc2)).setCell ⟨w.heap.size + 2, 3, none⟩ (.slice ea2 p.table.edges.length ec2)).setCell ⟨w.heap.size + 2, 4, none⟩ (.int .i64 p.table.start)) [w.heap.size + 2] := Apart.setCell (Apart.setCell (setCell_apart _ _ _ _) 3 _) 4 _
  have hA := hA3.trans (set5_apart _ (w.heap.size + 1) (.slice a1 p.plan.length cc1) (.string role) (.slice sa2 p.table.states.length sc2) (.slice ea2 p.table.edges.length ec2) (.int .i64 p.table.start))
  have hX := (((((B2.keep hA3 (by simp)).set 0 (by simp) (.slice a1 p.plan.length cc1)).set 1 (by simp) (.string role)).set 2 (by simp) (.slice sa2 p.table.states.length sc2)).set 3 (by simp) (.slice ea2 p.table.edges.length ec2)).set 4 (by simp) (.int .i64 p.table.start)
  obtain ⟨W, hW⟩ : ∃ W, W = ((((((((w2.setCell ⟨w.heap.size + 2, 2, none⟩ (.slice sa2 p.table.states.length sc2)).setCell ⟨w.heap.size + 2, 3, none⟩ (.slice ea2 p.table.edges.length ec2)).setCell ⟨w.heap.size + 2, 4, none⟩ (.int .i64 p.table.start)).setCell ⟨w.heap.size + 1, 0, none⟩ (.slice a1 p.plan.length cc1)).setCell ⟨w.heap.size + 1, 1, none⟩ (.string role)).setCell ⟨w.heap.size + 1, 2, none⟩ (.slice sa2 p.table.states.length sc2)).setCell ⟨w.heap.size + 1, 3, none⟩ (.slice ea2 p.table.edges.length ec2)).setCell ⟨w.heap.size + 1, 4, none⟩ (.int .i64 p.table.start)) := ⟨_, rfl⟩
  rw [← hW] at hA hX ⊢
  have k0 := hX.cell 0 _ rfl
  have k1 := hX.cell 1 _ rfl
  have k2 := hX.cell 2 _ rfl
  have k3 := hX.cell 3 _ rfl
  have k4 := hX.cell 4 _ rfl
  have hz : w.heap.size + 3 ≤ w2.heap.size := by have := HB2.out.size; simp at this; omega
  have hbW : Below w.heap.size w W := (HB1s.out.trans (HB2.out.mono HB1s.out.size)).trans (hA.below (by omega) (fun b hb => by simp at hb; omega))
  have hA1 : Apart w1 W ([w.heap.size + 2] ++ ([] ++ ([w.heap.size + 2] ++ [w.heap.size + 1]))) := HBA.out.trans ((below_apart HB2.out).trans hA)
  have hlo : ∀ b ∈ vblocks (.slice a1 p.plan.length cc1), w.heap.size + 3 ≤ b := fun b hb => by
    have := (HO1.out.free b ((own_blocks rfl).2 hb)).1
    simpa using this
  refine bodyPost_ret_by (v := .agg #[.slice a1 p.plan.length cc1, .string role, .slice sa2 p.table.states.length sc2, .slice ea2 p.table.edges.length ec2, .int .i64 p.table.start]) ?_ rfl ⟨_, rfl, ⟨⟨_, _, _, by rw [← HRO.out]; rfl, ?_, ?_⟩⟩, hbW⟩
  · unfold results
    go_simp
  · exact (slat_keep HS1.out hA1 (fun b hb hm => by have := hlo b hb; simp at hm; omega) (Nat.le_refl _)).up hA1.size
  · exact mach_sep HS2.out hA (fun b hb hm => by have := HF2.out.lo b hb; simp at this hm; omega)
end Go.Proofs.YtlcafjckaahmaaaGreat
/- A Play that is handed in, opened. -/
namespace Go.Proofs.YtlcafjckaahmaaaGreat
open Go.RowKit Go.ChangeShapes Go.WideShapes

theorem Tryz.cPla : Tryz.prog.cellsOf 53 = 5 := by kernel_rfl
theorem Tryz.cNds : Tryz.prog.cellsOf 22 = 1 := by kernel_rfl
theorem open_play {H : Type} {enc : TypeId × Value → H} {w : World} {base : Nat} {spare : Nat → Bool} {held : Bool} {fuel : Nat} {cs : Array Value} {x : DataW H × List MemPlace} (hsz : cs.size = Tryz.prog.cellsOf 53) (h : DataW.trod enc Tryz.prog w base spare held fuel 53 cs.toList = some x) :
    ∃ p pa pc sa sc ea ec, Value.agg cs = plaV (.slice pa p.plan.length pc) p.role (.slice sa p.table.states.length sc) (.slice ea p.table.edges.length ec) p.table.start ∧ PlaArg w pa pc sa sc ea ec p := by
  rw [Tryz.cPla] at hsz
  obtain ⟨l⟩ := cs
  match l, hsz with
  | [a, b, c, d, f], _ =>
    obtain ⟨xs, n, _, _, hl, hlen, hf⟩ := DataW.trod_struct Tryz.underlying53 h
    have hx3 : xs.length = 3 := hlen
    match xs, hx3 with
    | [y0, y1, y2], _ =>
      have g0 : DataW.trod enc Tryz.prog w base spare held n 22 (([a, b, c, d, f].drop 0).take (Tryz.prog.cellsOf 22)) = some y0 := hf 0 _ rfl
      have g1 : DataW.trod enc Tryz.prog w base spare held n 9 (([a, b, c, d, f].drop 1).take (Tryz.prog.cellsOf 9)) = some y1 := hf 1 _ rfl
      have g2 : DataW.trod enc Tryz.prog w base spare held n 51 (([a, b, c, d, f].drop 2).take (Tryz.prog.cellsOf 51)) = some y2 := hf 2 _ rfl
      rw [Tryz.cNds] at g0
      rw [Tryz.cS] at g1
      rw [Tryz.cMach] at g2
      simp only [List.drop_zero, List.drop_succ_cons, List.take_succ_cons, List.take_zero] at g0 g1 g2
      obtain ⟨pa, pl, pc, rfl⟩ := slice_shape Tryz.underlying22 g0
      obtain ⟨s1, e1, _, k1⟩ := DataW.trod_string Tryz.underlying9 g1
      obtain ⟨ns, rfl, p1, p2, p3⟩ := open_nodes g0
      obtain ⟨m, sa, sc, ea, ec, hm, hma⟩ := open_machine (cs := #[c, d, f]) (by rw [Tryz.cMach]; rfl) g2
      have hb : b = .string s1 := by simpa using e1
      subst hb
      simp only [machV, Value.agg.injEq, Array.mk.injEq, List.cons.injEq, and_true] at hm
      obtain ⟨rfl, rfl, rfl⟩ := hm
      exact ⟨⟨ns, s1, m⟩, pa, pc, sa, sc, ea, ec, rfl, ⟨p1, p2, p3, k1, hma⟩⟩
end Go.Proofs.YtlcafjckaahmaaaGreat
