/- Machines as a law holds them: apart, marked, held. -/
import Derived.Test.YthaomohoiginnaaQMachineOf20
import Derived.Test.YthaomohoiginnaaQMachineOf23
import Derived.Test.YthaomohoiginnaaQMachineOf24
import Derived.Test.YthaomohoiginnaaQMachineOf25
import Derived.Test.YthaomohoiginnaaQMachineOf26
namespace Go.Proofs.Ythaomohoiginnaa
open Go.RowKit

theorem fresh_two {lo : Nat} {w : World} {p1 p2 : Option Addr} {n1 c1 n2 c2 : Nat} {z : Int} (h1 : MOwn lo w (.slice p1 n1 c1)) (h2 : MOwn lo w (.slice p2 n2 c2)) (hd : ∀ b, (Value.slice p1 n1 c1).ownBlock = some b → (Value.slice p2 n2 c2).ownBlock = some b → False) : Fresh lo w (.agg #[.slice p1 n1 c1, .slice p2 n2 c2, .int .i64 z]) := by
  have f1 := fresh_slice h1
  have f2 := fresh_slice h2
  have e : vblocks (.agg #[.slice p1 n1 c1, .slice p2 n2 c2, .int .i64 z]) = vblocks (.slice p1 n1 c1) ++ vblocks (.slice p2 n2 c2) := by
    cases p1 <;> cases p2 <;> simp [vblocks, cellBlocks]
  refine ⟨fun b hb => ?_, fun b hb => ?_, fun b hb => ?_, ?_⟩
  · rw [e, List.mem_append] at hb; exact hb.elim (f1.lo b) (f2.lo b)
  · rw [e, List.mem_append] at hb; exact hb.elim (f1.hi b) (f2.hi b)
  · rw [e, List.mem_append] at hb; exact hb.elim (f1.free b) (f2.free b)
  · rw [e, List.nodup_append]
    exact ⟨f1.nodup, f2.nodup, fun a ha b hb hab => by subst hab; exact hd a ((own_blocks rfl).2 ha) ((own_blocks rfl).2 hb)⟩
theorem two_blocks {p1 p2 : Option Addr} {n1 c1 n2 c2 : Nat} {z : Int} : vblocks (.agg #[.slice p1 n1 c1, .slice p2 n2 c2, .int .i64 z]) = vblocks (.slice p1 n1 c1) ++ vblocks (.slice p2 n2 c2) := by
  cases p1 <;> cases p2 <;> simp [vblocks, cellBlocks]
theorem mach_far {w w' : World} {v : Value} {m : Mach} {l : List Nat} (h : MachAt w v m) (ha : Apart w w' l) (hd : ∀ b ∈ l, w.heap.size ≤ b) : MachAt w' v m := by
  obtain ⟨sv, ev, rfl, h1, h2⟩ := h
  exact ⟨_, _, rfl, h1.far ha hd, h2.far ha hd⟩
theorem mach_sep {w w' : World} {v : Value} {m : Mach} {l : List Nat} (h : MachAt w v m) (ha : Apart w w' l) (hd : ∀ b ∈ vblocks v, b ∉ l) : MachAt w' v m := by
  obtain ⟨sv, ev, rfl, h1, h2⟩ := h
  have H1 := h1
  have H2 := h2
  obtain ⟨a1, c1, rfl, _⟩ := h1
  obtain ⟨a2, c2, rfl, _⟩ := h2
  rw [two_blocks] at hd
  exact ⟨_, _, rfl, H1.keep ha.size (fun b hb hlt => ha.block b hlt (hd b (List.mem_append_left _ ((own_blocks rfl).1 hb)))), H2.keep ha.size (fun b hb hlt => ha.block b hlt (hd b (List.mem_append_right _ ((own_blocks rfl).1 hb))))⟩

set_option maxHeartbeats 1000000 in
theorem mach_to (m : Mach) (sa : Option Addr) (sc : Nat) (ea : Option Addr) (ec : Nat) (w : World) (h : MachArg w sa sc ea ec m) (hf : m.fit) :
    Calls Try.prog 26 #[machV sa sc ea ec m] w fun e w' => ∃ v', e = .returned v' ∧ MachAt w' v' m ∧ Fresh w.heap.size w' v' ∧ Below w.heap.size w w' := by
  have H := hide h
  have HF := hide hf
  unfold machV
  clear h hf
  have HW : Hid (∀ (o1 o2 o3 : Obj), Below w.heap.size w (((w.alloc o1).alloc o2).alloc o3)) := hide (fun o1 o2 o3 => ((malloc1 _ _).trans ((malloc1 _ _).mono (by simp))).trans ((malloc1 _ _).mono (by simp; omega)))
  go_enter Try.func26, Try.ntmps26
  go_wp2_with ((go_at_call 74; refine (to_states m.states sa sc _ HF.out.2.2.1 (H.out.carry (HW.out _ _ _)).sr).mono ?_; rintro e w1 ⟨v1, rfl, hs1, hoa1, hb1⟩; have HS1 := hide hs1; have HO1 := hide hoa1; obtain ⟨a1, c1, rfl, -⟩ := hs1; have HW1 : Hid (Below w.heap.size w w1) := hide ((HW.out _ _ _).trans (hb1.mono (HW.out _ _ _).size)); have hz1 : w.heap.size + 3 ≤ w1.heap.size := (by have := hb1.size; simp at this; omega); have p1 : w1.cell? ⟨w.heap.size, 1, none⟩ = some (.slice ea m.edges.length ec) := (hb1.cell (p := ⟨w.heap.size, 1, none⟩) (by first | (simp; done) | (simp; omega))).trans (((c3_0 _ _ _ _).cell (p := ⟨w.heap.size, 1, none⟩) (by simp)).trans (by simp)); have p2 : w1.cell? ⟨w.heap.size, 2, none⟩ = some (.int .i64 m.start) := (hb1.cell (p := ⟨w.heap.size, 2, none⟩) (by first | (simp; done) | (simp; omega))).trans (((c3_0 _ _ _ _).cell (p := ⟨w.heap.size, 2, none⟩) (by simp)).trans (by simp)); have q0 : w1.cell? ⟨w.heap.size + 1 + 1, 0, none⟩ = some (.slice none 0 0) := (hb1.cell (p := ⟨w.heap.size + 1 + 1, 0, none⟩) (by first | (simp; done) | (simp; omega))).trans (c3_2 _ _ _ _ _ _ _ rfl); have q1 : w1.cell? ⟨w.heap.size + 1 + 1, 1, none⟩ = some (.slice none 0 0) := (hb1.cell (p := ⟨w.heap.size + 1 + 1, 1, none⟩) (by first | (simp; done) | (simp; omega))).trans (c3_2 _ _ _ _ _ _ _ rfl); have q2 : w1.cell? ⟨w.heap.size + 1 + 1, 2, none⟩ = some (.int .i64 0) := (hb1.cell (p := ⟨w.heap.size + 1 + 1, 2, none⟩) (by first | (simp; done) | (simp; omega))).trans (c3_2 _ _ _ _ _ _ _ rfl); have r0 : w1.cell? ⟨w.heap.size + 1, 0, none⟩ = some (.slice none 0 0) := (hb1.cell (p := ⟨w.heap.size + 1, 0, none⟩) (by first | (simp; done) | (simp; omega))).trans (((c3_1 _ _ _ _).cell (p := ⟨w.heap.size + 1, 0, none⟩) (by simp)).trans (by simp)); have r1 : w1.cell? ⟨w.heap.size + 1, 1, none⟩ = some (.slice none 0 0) := (hb1.cell (p := ⟨w.heap.size + 1, 1, none⟩) (by first | (simp; done) | (simp; omega))).trans (((c3_1 _ _ _ _).cell (p := ⟨w.heap.size + 1, 1, none⟩) (by simp)).trans (by simp)); have r2 : w1.cell? ⟨w.heap.size + 1, 2, none⟩ = some (.int .i64 0) := (hb1.cell (p := ⟨w.heap.size + 1, 2, none⟩) (by first | (simp; done) | (simp; omega))).trans (((c3_1 _ _ _ _).cell (p := ⟨w.heap.size + 1, 2, none⟩) (by simp)).trans (by simp)); have fq0 : w1.frozen? ⟨w.heap.size + 1 + 1, 0, none⟩ = false := (hb1.frozen (p := ⟨w.heap.size + 1 + 1, 0, none⟩) (by first | (simp; done) | (simp; omega))).trans (f3_2 _ _ _ _ _ _); have fq1 : w1.frozen? ⟨w.heap.size + 1 + 1, 1, none⟩ = false := (hb1.frozen (p := ⟨w.heap.size + 1 + 1, 1, none⟩) (by first | (simp; done) | (simp; omega))).trans (f3_2 _ _ _ _ _ _); have fq2 : w1.frozen? ⟨w.heap.size + 1 + 1, 2, none⟩ = false := (hb1.frozen (p := ⟨w.heap.size + 1 + 1, 2, none⟩) (by first | (simp; done) | (simp; omega))).trans (f3_2 _ _ _ _ _ _); have fr0 : w1.frozen? ⟨w.heap.size + 1, 0, none⟩ = false := (hb1.frozen (p := ⟨w.heap.size + 1, 0, none⟩) (by first | (simp; done) | (simp; omega))).trans (((c3_1 _ _ _ _).frozen (p := ⟨w.heap.size + 1, 0, none⟩) (by simp)).trans (by simp)); have fr1 : w1.frozen? ⟨w.heap.size + 1, 1, none⟩ = false := (hb1.frozen (p := ⟨w.heap.size + 1, 1, none⟩) (by first | (simp; done) | (simp; omega))).trans (((c3_1 _ _ _ _).frozen (p := ⟨w.heap.size + 1, 1, none⟩) (by simp)).trans (by simp)); have fr2 : w1.frozen? ⟨w.heap.size + 1, 2, none⟩ = false := (hb1.frozen (p := ⟨w.heap.size + 1, 2, none⟩) (by first | (simp; done) | (simp; omega))).trans (((c3_1 _ _ _ _).frozen (p := ⟨w.heap.size + 1, 2, none⟩) (by simp)).trans (by simp)); have HB1 : Hid (Below w.heap.size w (w1.setCell ⟨w.heap.size + 1 + 1, 0, none⟩ (.slice a1 m.states.length c1))) := hide (HW1.out.setCell (Nat.le_trans (Nat.le_add_right _ 1) (Nat.le_add_right _ 1)) _); clear hb1 hoa1))
  go_wp2_with ((go_at_call 75; refine (to_edges m.edges ea ec _ HF.out.2.2.2 (H.out.carry HB1.out).er).mono ?_; rintro e w2 ⟨v2, rfl, hs2, hoa2, hb2⟩; have HS2 := hide hs2; have HO2 := hide hoa2; obtain ⟨a2, c2, rfl, -⟩ := hs2; have HB2 : Hid (Below w.heap.size w w2) := hide (HB1.out.trans (hb2.mono HB1.out.size)); have hz2 : w.heap.size + 3 ≤ w2.heap.size := (by have := hb2.size; simp at this; omega); have u2 := ((hb2.cell (p := ⟨w.heap.size, 2, none⟩) (by first | (simp; done) | (simp; omega))).trans (World.cell?_setCell_other _ _ _ _ (by simp))).trans p2; have t1 := ((hb2.cell (p := ⟨w.heap.size + 1 + 1, 1, none⟩) (by first | (simp; done) | (simp; omega))).trans (World.cell?_setCell_other _ _ _ _ (by simp))).trans q1; have t2 := ((hb2.cell (p := ⟨w.heap.size + 1 + 1, 2, none⟩) (by first | (simp; done) | (simp; omega))).trans (World.cell?_setCell_other _ _ _ _ (by simp))).trans q2; have s0 := ((hb2.cell (p := ⟨w.heap.size + 1, 0, none⟩) (by first | (simp; done) | (simp; omega))).trans (World.cell?_setCell_other _ _ _ _ (by simp))).trans r0; have s1 := ((hb2.cell (p := ⟨w.heap.size + 1, 1, none⟩) (by first | (simp; done) | (simp; omega))).trans (World.cell?_setCell_other _ _ _ _ (by simp))).trans r1; have s2 := ((hb2.cell (p := ⟨w.heap.size + 1, 2, none⟩) (by first | (simp; done) | (simp; omega))).trans (World.cell?_setCell_other _ _ _ _ (by simp))).trans r2; have t0 := ((hb2.cell (p := ⟨w.heap.size + 1 + 1, 0, none⟩) (by first | (simp; done) | (simp; omega))).trans (World.cell?_setCell_same _ _ _ q0)); have gq0 := ((hb2.frozen (p := ⟨w.heap.size + 1 + 1, 0, none⟩) (by first | (simp; done) | (simp; omega))).trans (World.frozen?_setCell _ _ _ _)).trans fq0; have gq1 := ((hb2.frozen (p := ⟨w.heap.size + 1 + 1, 1, none⟩) (by first | (simp; done) | (simp; omega))).trans (World.frozen?_setCell _ _ _ _)).trans fq1; have gq2 := ((hb2.frozen (p := ⟨w.heap.size + 1 + 1, 2, none⟩) (by first | (simp; done) | (simp; omega))).trans (World.frozen?_setCell _ _ _ _)).trans fq2; have gr0 := ((hb2.frozen (p := ⟨w.heap.size + 1, 0, none⟩) (by first | (simp; done) | (simp; omega))).trans (World.frozen?_setCell _ _ _ _)).trans fr0; have gr1 := ((hb2.frozen (p := ⟨w.heap.size + 1, 1, none⟩) (by first | (simp; done) | (simp; omega))).trans (World.frozen?_setCell _ _ _ _)).trans fr1; have gr2 := ((hb2.frozen (p := ⟨w.heap.size + 1, 2, none⟩) (by first | (simp; done) | (simp; omega))).trans (World.frozen?_setCell _ _ _ _)).trans fr2; have HBX := hide hb2; clear hb2 hoa2))
  have hs : ∀ (W : World) (x : Value) (p q : Addr), p ≠ q → (W.setCell p x).cell? q = W.cell? q := fun W x p q hpq => World.cell?_setCell_other _ _ _ _ hpq
  obtain ⟨W, hW⟩ : ∃ W, W = (((((w2.setCell ⟨w.heap.size + 1 + 1, 1, none⟩ (.slice a2 m.edges.length c2)).setCell ⟨w.heap.size + 1 + 1, 2, none⟩ (.int .i64 m.start)).setCell ⟨w.heap.size + 1, 0, none⟩ (.slice a1 m.states.length c1)).setCell ⟨w.heap.size + 1, 1, none⟩ (.slice a2 m.edges.length c2)).setCell ⟨w.heap.size + 1, 2, none⟩ (.int .i64 m.start)) := ⟨_, rfl⟩
  have z0 : W.cell? ⟨w.heap.size + 1, 0, none⟩ = some (.slice a1 m.states.length c1) := by
    rw [hW, hs _ _ _ _ (by simp), hs _ _ _ _ (by simp)]
    exact World.cell?_setCell_same _ _ _ (u := .slice none 0 0) (by rw [hs _ _ _ _ (by simp), hs _ _ _ _ (by simp)]; exact s0)
  have z1 : W.cell? ⟨w.heap.size + 1, 1, none⟩ = some (.slice a2 m.edges.length c2) := by
    rw [hW, hs _ _ _ _ (by simp)]
    exact World.cell?_setCell_same _ _ _ (u := .slice none 0 0) (by rw [hs _ _ _ _ (by simp), hs _ _ _ _ (by simp), hs _ _ _ _ (by simp)]; exact s1)
  have z2 : W.cell? ⟨w.heap.size + 1, 2, none⟩ = some (.int .i64 m.start) := by
    rw [hW]
    exact World.cell?_setCell_same _ _ _ (u := .int .i64 0) (by rw [hs _ _ _ _ (by simp), hs _ _ _ _ (by simp), hs _ _ _ _ (by simp), hs _ _ _ _ (by simp)]; exact s2)
  rw [← hW]
  have hset : Below (w.heap.size + 1) w2 W := by
    rw [hW]
    exact (((((Below.refl _ _).setCell (p := ⟨w.heap.size + 1 + 1, 1, none⟩) (Nat.le_add_right _ 1) _).setCell (p := ⟨w.heap.size + 1 + 1, 2, none⟩) (Nat.le_add_right _ 1) _).setCell (p := ⟨w.heap.size + 1, 0, none⟩) (Nat.le_refl _) _).setCell (p := ⟨w.heap.size + 1, 1, none⟩) (Nat.le_refl _) _).setCell (p := ⟨w.heap.size + 1, 2, none⟩) (Nat.le_refl _) _
  have hbW : Below w.heap.size w W := HB2.out.trans (hset.mono (by omega))
  refine bodyPost_ret_by (v := .agg #[.slice a1 m.states.length c1, .slice a2 m.edges.length c2, .int .i64 m.start]) ?_ rfl ⟨_, rfl, ⟨_, _, rfl, ?_, ?_⟩, ?_, hbW⟩
  · unfold results
    go_simp
  · refine HS1.out.keep (by have := hset.size; have := HBX.out.size; simp at this; omega) (fun b hb hlt => ?_)
    have h1 := (HO1.out.free b hb).1
    simp at h1
    have h2 : W.heap[b]? = w2.heap[b]? := by
      rw [hW, Below.heap_setCell _ _ _ _ (by show b ≠ w.heap.size + 1; omega), Below.heap_setCell _ _ _ _ (by show b ≠ w.heap.size + 1; omega), Below.heap_setCell _ _ _ _ (by show b ≠ w.heap.size + 1; omega), Below.heap_setCell _ _ _ _ (by show b ≠ w.heap.size + 1 + 1; omega), Below.heap_setCell _ _ _ _ (by show b ≠ w.heap.size + 1 + 1; omega)]
    rw [h2, HBX.out.block b (by simp; omega), Below.heap_setCell _ _ _ _ (by show b ≠ w.heap.size + 1 + 1; omega)]
  · refine HS2.out.keep (by have := hset.size; omega) (fun b hb hlt => ?_)
    have h1 := (HO2.out.free b hb).1
    simp at h1
    rw [hW, Below.heap_setCell _ _ _ _ (by show b ≠ w.heap.size + 1; omega), Below.heap_setCell _ _ _ _ (by show b ≠ w.heap.size + 1; omega), Below.heap_setCell _ _ _ _ (by show b ≠ w.heap.size + 1; omega), Below.heap_setCell _ _ _ _ (by show b ≠ w.heap.size + 1 + 1; omega), Below.heap_setCell _ _ _ _ (by show b ≠ w.heap.size + 1 + 1; omega)]
  · have z1 := HW1.out.size
    have z2 := HBX.out.size
    have z3 := hset.size
    simp at z2
    have hfz : ∀ b j, W.frozen? ⟨b, j, none⟩ = w2.frozen? ⟨b, j, none⟩ := fun b j => by
      rw [hW, World.frozen?_setCell, World.frozen?_setCell, World.frozen?_setCell, World.frozen?_setCell, World.frozen?_setCell]
    refine fresh_two ⟨fun b hb => ?_⟩ ⟨fun b hb => ?_⟩ (fun b hb hb' => ?_)
    · have h1 := HO1.out.free b hb
      simp at h1
      refine ⟨by omega, by omega, fun j => ?_⟩
      rw [hfz, HBX.out.frozen (p := ⟨b, j, none⟩) (by simp; omega), World.frozen?_setCell]
      exact h1.2.2 j
    · have h1 := HO2.out.free b hb
      simp at h1
      exact ⟨by omega, by omega, fun j => (hfz b j).trans (h1.2.2 j)⟩
    · have h1 := (HO1.out.free b hb).2.1
      have h2 := (HO2.out.free b hb').1
      simp at h2
      omega


set_option maxHeartbeats 400000 in
theorem sz2_machine (m : Mach) (left : Int) (h0 : 0 ≤ left) (hle : left ≤ 1048576) (sa : Option Addr) (sc : Nat) (ea : Option Addr) (ec : Nat) (w : World) (h : MachArg w sa sc ea ec m) :
    Calls Try.prog 24 #[machV sa sc ea ec m, .int .i64 left] w fun e w' => ∃ r : Int, e = .returned (.int .i64 r) ∧ r ≤ 1048576 ∧ (0 ≤ r → m.fit ∧ r + ((m.states.length + m.edges.length : Nat) : Int) ≤ left) ∧ Below w.heap.size w w' := by
  have H := hide h
  unfold machV
  clear h
  go_enter Try.func24, Try.ntmps24
  go_wp2_with (first
    | (go_at_call 70; refine (sz2_edges m.edges r1 ea ec _ H.out.eok H.out.el (by omega) hr1 (H.out.carry HB1.out).er).mono ?_; rintro e w2 ⟨r2, rfl, hr2, hf2, hb2⟩; have HF2 := hide hf2; have HB2 : Hid (Below w.heap.size w w2) := hide (HB1.out.trans (hb2.mono HB1.out.size)); clear hf2 hb2; by_cases hn2 : r2 < 0)
    | (go_at_call 69; refine (sz2_states m.states left sa sc _ H.out.sok H.out.sl h0 hle (H.out.carry (malloc1 _ _)).sr).mono ?_; rintro e w1 ⟨r1, rfl, hr1, hf1, hb1⟩; have HF1 := hide hf1; have HB1 : Hid (Below w.heap.size w w1) := hide ((malloc1 _ _).trans (hb1.mono (by simp))); have hz1 : w.heap.size < w1.heap.size := (by have := hb1.size; simp at this; omega); have x0 := (hb1.cell (p := ⟨w.heap.size, 0, none⟩) (by simp)); have x1 := (hb1.cell (p := ⟨w.heap.size, 1, none⟩) (by simp)); simp at x0 x1; clear hf1 hb1; by_cases hn1 : r1 < 0))
  · go_ret
    exact ⟨_, rfl, by omega, fun h => absurd h (by omega), HB1.out⟩
  · go_ret
    exact ⟨_, rfl, by omega, fun h => absurd h (by omega), HB2.out⟩
  · go_ret
    refine ⟨_, rfl, hr2, fun _ => ?_, HB2.out⟩
    have e1 := HF1.out (by omega)
    have e2 := HF2.out (by omega)
    exact ⟨⟨e1.2, e2.2, by omega, by omega⟩, by omega⟩

def markMach (k : Nat) (m : Mach) : Mach := ⟨markRStates k m.states.length, markREdges (k + m.states.length * 2) m.edges.length, m.start⟩
def machN (m : Mach) : Nat := m.states.length * 2 + m.edges.length * 4
set_option maxHeartbeats 400000 in
theorem mach_mark (k0 : Nat) (m : Mach) (v : Value) (w : World) (lo : Nat) (h1 : 1 ≤ k0) (hk : k0 + machN m ≤ 5900000) (hv : MachAt w v m) (hf : Fresh lo w v) :
    Calls Try.prog 85 #[v, .int .i64 k0] w fun e w' => e = .returned (.int .i64 ((k0 + machN m : Nat) : Int)) ∧ MachAt w' v (markMach k0 m) ∧ Apart w w' (vblocks v) := by
  obtain ⟨sv, ev, rfl, hs, he⟩ := hv
  have HS := hide hs
  have HE := hide he
  obtain ⟨a1, c1, rfl, -⟩ := hs
  obtain ⟨a2, c2, rfl, -⟩ := he
  have HB : Hid (vblocks (.agg #[.slice a1 m.states.length c1, .slice a2 m.edges.length c2, .int .i64 m.start]) = vblocks (.slice a1 m.states.length c1) ++ vblocks (.slice a2 m.edges.length c2)) := hide two_blocks
  have hd : ∀ b ∈ vblocks (.slice a1 m.states.length c1), b ∉ vblocks (.slice a2 m.edges.length c2) := fun b h1 h2 => by
    have := hf.nodup
    rw [HB.out, List.nodup_append] at this
    exact this.2.2 b h1 b h2 rfl
  have HD := hide hd
  have HO1 : Hid (MOwn lo w (.slice a1 m.states.length c1)) := hide (Fresh.own ⟨fun b hb => hf.lo b (by rw [HB.out]; exact List.mem_append_left _ hb), fun b hb => hf.hi b (by rw [HB.out]; exact List.mem_append_left _ hb), fun b hb => hf.free b (by rw [HB.out]; exact List.mem_append_left _ hb), by have := hf.nodup; rw [HB.out, List.nodup_append] at this; exact this.1⟩)
  have HF2 : Hid (Fresh lo w (.slice a2 m.edges.length c2)) := hide ⟨fun b hb => hf.lo b (by rw [HB.out]; exact List.mem_append_right _ hb), fun b hb => hf.hi b (by rw [HB.out]; exact List.mem_append_right _ hb), fun b hb => hf.free b (by rw [HB.out]; exact List.mem_append_right _ hb), by have := hf.nodup; rw [HB.out, List.nodup_append] at this; exact this.2.1⟩
  have HLT : Hid (∀ b ∈ vblocks (.slice a1 m.states.length c1), b < w.heap.size) := hide (fun b hb => hf.hi b (by rw [HB.out]; exact List.mem_append_left _ hb))
  have HN : Hid (machN m = m.states.length * 2 + m.edges.length * 4) := hide rfl
  unfold machN at hk
  clear hf hd
  go_enter Try.func85, Try.ntmps85
  go_wp2_with (first
    | (go_at_call 134; refine (mark_edges (k0 + m.states.length * 2) m.edges _ _ lo (by omega) (by omega) HE1.out (HF1.out.own)).mono ?_; rintro e w2 ⟨rfl, hs2, hg2⟩; have HS2 := hide hs2; have HA2 := hide (grownBy_apart hg2); clear hs2 hg2)
    | (go_at_call 133; refine (mark_states k0 m.states _ _ lo h1 (by omega) ((HS.out.carry (malloc1 _ _)).up (by simp)) (HO1.out.carry (malloc1 _ _))).mono ?_; rintro e w1 ⟨rfl, hs1, hg1⟩; have HS1 := hide hs1; have HA1 : Hid (Apart w w1 (vblocks (.slice a1 m.states.length c1))) := hide (by have := (below_apart (malloc1 w _)).trans (grownBy_apart hg1); rwa [List.nil_append] at this); have HE1 : Hid (REdgeSl w1 w1.heap.size (.slice a2 m.edges.length c2) m.edges) := hide (HE.out.keep HA1.out.size (fun b hb hlt => HA1.out.block b hlt (fun hm => HD.out b hm ((own_blocks rfl).1 hb)))); have HF1 : Hid (Fresh lo w1 (.slice a2 m.edges.length c2)) := hide (HF2.out.keep HA1.out (fun b hb hm => HD.out b hm hb)); have hcw : ∀ j, w1.cell? ⟨w.heap.size, j, none⟩ = (w.alloc (.cells #[.slice a1 m.states.length c1, .slice a2 m.edges.length c2, .int .i64 m.start] 45)).cell? ⟨w.heap.size, j, none⟩ := (fun j => World.cell?_of_block (a := ⟨w.heap.size, j, none⟩) (hg1.block w.heap.size (by simp) (fun e => absurd (HLT.out w.heap.size ((own_blocks rfl).1 e.symm)) (by omega)))); have q1 := hcw 1; simp at q1; clear hs1 hg1 hcw))
  go_ret
  refine ⟨ret_int (by rw [HN.out]; omega), ⟨_, _, rfl, ?_, ?_⟩, ?_⟩
  · refine HS1.out.keep HA2.out.size (fun b hb hlt => HA2.out.block b hlt (fun hm => HD.out b ((own_blocks rfl).1 hb) hm))
  · exact HS2.out
  · rw [HB.out]; exact HA1.out.trans HA2.out
set_option maxHeartbeats 400000 in
theorem mach_held (k0 : Nat) (m : Mach) (v : Value) (w : World) (h1 : 1 ≤ k0) (hk : k0 + machN m ≤ 5900000) (hv : MachAt w v (markMach k0 m)) :
    Calls Try.prog 86 #[v, .int .i64 k0] w fun e w' => e = .returned (.int .i64 ((k0 + machN m : Nat) : Int)) ∧ Below w.heap.size w w' := by
  obtain ⟨sv, ev, rfl, hs, he⟩ := hv
  have HS := hide hs
  have HE := hide he
  obtain ⟨a1, c1, rfl, -⟩ := hs
  obtain ⟨a2, c2, rfl, -⟩ := he
  have HN : Hid (machN m = m.states.length * 2 + m.edges.length * 4) := hide rfl
  unfold machN at hk
  simp only [markMach] at HS HE ⊢
  go_enter Try.func86, Try.ntmps86
  go_wp2_with (first
    | (go_at_call 136; refine (held_edges (k0 + m.states.length * 2) m.edges.length _ _ (by omega) (by omega) ((HE.out.carry HB1.out).up HB1.out.size)).mono ?_; rintro e w2 ⟨rfl, hb2⟩; have HB2 : Hid (Below w.heap.size w w2) := hide (HB1.out.trans (hb2.mono HB1.out.size)); clear hb2)
    | (go_at_call 135; refine (held_states k0 m.states.length _ _ h1 (by omega) ((HS.out.carry (malloc1 _ _)).up (by simp))).mono ?_; rintro e w1 ⟨rfl, hb1⟩; have HB1 : Hid (Below w.heap.size w w1) := hide ((malloc1 _ _).trans (hb1.mono (by simp))); have q1 := (hb1.cell (p := ⟨w.heap.size, 1, none⟩) (by simp)); simp at q1; clear hb1))
  go_ret
  exact ⟨ret_int (by rw [HN.out]; omega), HB2.out⟩
end Go.Proofs.Ythaomohoiginnaa
/- MachineOut: the law's own helpers over it. -/
namespace Go.Proofs.Ythaomohoiginnaa
open Go.RowKit

def mV (ps : Option Addr) (cs : Nat) (pe : Option Addr) (ce : Nat) (m : Mach) : Value := .agg #[.slice ps m.states.length cs, .slice pe m.edges.length ce, .int .i64 m.start]
def mC (ps : Option Addr) (cs : Nat) (pe : Option Addr) (ce : Nat) (m : Mach) (c : Int) : List Value := [.slice ps m.states.length cs, .slice pe m.edges.length ce, .int .i64 m.start, .int .i64 c]
def mO (ps : Option Addr) (cs : Nat) (pe : Option Addr) (ce : Nat) (m : Mach) (c : Int) : Value := .agg (mC ps cs pe ce m c).toArray
theorem eq_machOut (m : Mach) (code : Int) (p1 : Option Addr) (c1 : Nat) (p2 : Option Addr) (c2 : Nat) (p3 : Option Addr) (c3 : Nat) (p4 : Option Addr) (c4 : Nat) (w : World) (ha : MachAt w (mV p1 c1 p2 c2 m) m) (hb : MachAt w (mV p3 c3 p4 c4 m) m) :
    Calls Try.prog 31 #[mO p1 c1 p2 c2 m code, mO p3 c3 p4 c4 m code] w fun e w' => e = .returned (.bool true) ∧ Below w.heap.size w w' := by
  have HA := hide ha
  have HB := hide hb
  have HW : Hid (∀ (o1 o2 : Obj), Below w.heap.size w ((w.alloc o1).alloc o2)) := hide (fun o1 o2 => (malloc1 _ _).trans ((malloc1 _ _).mono (by simp)))
  have HX : Hid (BoxL ((w.alloc (.cells (mC p1 c1 p2 c2 m code).toArray 50)).alloc (.cells (mC p3 c3 p4 c4 m code).toArray 50)) w.heap.size (mC p1 c1 p2 c2 m code)) := hide ((BoxL.new w _ _).keep (below_apart (malloc1 _ _)) (by simp))
  have HY : Hid (BoxL ((w.alloc (.cells (mC p1 c1 p2 c2 m code).toArray 50)).alloc (.cells (mC p3 c3 p4 c4 m code).toArray 50)) (w.heap.size + 1) (mC p3 c3 p4 c4 m code)) := hide (by have := BoxL.new (w.alloc (.cells (mC p1 c1 p2 c2 m code).toArray 50)) (mC p3 c3 p4 c4 m code) 50; simpa using this)
  unfold mO mC mV at *
  clear ha hb
  go_enter Try.func31, Try.ntmps31
  go_wp2_with (go_at_call 28; refine (eq_machine m _ _ _ (HA.out.carry (HW.out _ _)) (HB.out.carry (HW.out _ _))).mono ?_; rintro e w1 ⟨rfl, hb1⟩; have HB1 : Hid (Below w.heap.size w w1) := hide ((HW.out _ _).trans (hb1.mono (by simp; omega))); have x3 := (HX.out.keep (below_apart hb1) (by simp)).cell 3 _ rfl; have y3 := (HY.out.keep (below_apart hb1) (by simp)).cell 3 _ rfl; clear hb1)
  go_ret
  exact ⟨rfl, HB1.out⟩
theorem mark_machOut (k0 : Nat) (m : Mach) (code : Int) (p1 : Option Addr) (c1 : Nat) (p2 : Option Addr) (c2 : Nat) (w : World) (lo : Nat) (h1 : 1 ≤ k0) (hk : k0 + machN m ≤ 5900000) (hv : MachAt w (mV p1 c1 p2 c2 m) m) (hf : Fresh lo w (mV p1 c1 p2 c2 m)) :
    Calls Try.prog 32 #[mO p1 c1 p2 c2 m code, .int .i64 k0] w fun e w' => e = .returned (.int .i64 ((k0 + machN m : Nat) : Int)) ∧ MachAt w' (mV p1 c1 p2 c2 m) (markMach k0 m) ∧ Apart w w' (vblocks (mV p1 c1 p2 c2 m)) := by
  have HV := hide hv
  have HF := hide hf
  unfold mO mC mV at *
  clear hv hf
  go_enter Try.func32, Try.ntmps32
  go_wp2_with (go_at_call 85; refine (mach_mark k0 m _ _ lo h1 hk (HV.out.carry (malloc1 _ _)) (HF.out.keep (below_apart (malloc1 _ _)) (fun _ _ => by simp))).mono ?_; rintro e w1 ⟨rfl, hs1, ha1⟩; have HS1 := hide hs1; have HA1 := hide ha1; clear hs1 ha1)
  go_ret
  exact ⟨ret_int rfl, HS1.out, by have := (below_apart (malloc1 _ _)).trans HA1.out; rwa [List.nil_append] at this⟩
theorem held_machOut (k0 : Nat) (m : Mach) (code : Int) (p1 : Option Addr) (c1 : Nat) (p2 : Option Addr) (c2 : Nat) (w : World) (h1 : 1 ≤ k0) (hk : k0 + machN m ≤ 5900000) (hv : MachAt w (mV p1 c1 p2 c2 m) (markMach k0 m)) :
    Calls Try.prog 33 #[mO p1 c1 p2 c2 m code, .int .i64 k0] w fun e w' => e = .returned (.int .i64 ((k0 + machN m : Nat) : Int)) ∧ Below w.heap.size w w' := by
  have HV := hide hv
  unfold mO mC mV at *
  clear hv
  go_enter Try.func33, Try.ntmps33
  go_wp2_with (go_at_call 86; refine (mach_held k0 m _ _ h1 hk (HV.out.carry (malloc1 _ _))).mono ?_; rintro e w1 ⟨rfl, hb1⟩; have HB1 : Hid (Below w.heap.size w w1) := hide ((malloc1 _ _).trans (hb1.mono (by simp))); clear hb1)
  go_ret
  exact ⟨ret_int rfl, HB1.out⟩
theorem own_machAt {w : World} {base : Nat} {m : Mach} {ps pe : Option Addr} {cs ce : Nat} (hs : RStateOwn w base (.slice ps m.states.length cs) m.states) (he : REdgeOwn w base (.slice pe m.edges.length ce) m.edges) (hl : m.states.length ≤ 40 ∧ m.edges.length ≤ 80) : MachAt w (mV ps cs pe ce m) m :=
  ⟨_, _, rfl, hs.sl (by omega), he.sl (by omega)⟩
theorem own_fresh {w : World} {base : Nat} {m : Mach} {ps pe : Option Addr} {cs ce : Nat} (hs : RStateOwn w base (.slice ps m.states.length cs) m.states) (he : REdgeOwn w base (.slice pe m.edges.length ce) m.edges) (hd : ∀ b ∈ vblocks (.slice ps m.states.length cs), b ∉ vblocks (.slice pe m.edges.length ce)) : Fresh base w (mV ps cs pe ce m) :=
  fresh_two hs.fresh.own he.fresh.own (fun b h1 h2 => hd b ((own_blocks rfl).1 h1) ((own_blocks rfl).1 h2))
end Go.Proofs.Ythaomohoiginnaa
