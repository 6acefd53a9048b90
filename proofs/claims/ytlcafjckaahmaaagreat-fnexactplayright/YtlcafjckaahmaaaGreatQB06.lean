/- Machines: as values and in memory; the law's own helpers over them. -/
import Derived.Test.YtlcafjckaahmaaaGreatQB04
import Derived.Test.YtlcafjckaahmaaaGreatQB05
import Derived.Test.YtlcafjckaahmaaaGreatQB01
namespace Go.Proofs.YtlcafjckaahmaaaGreat
open Go.RowKit

theorem c3_0 (w : World) (A B C : Obj) : Below (w.alloc A).heap.size (w.alloc A) (((w.alloc A).alloc B).alloc C) := (malloc1 _ _).trans ((malloc1 _ _).mono (by simp))
theorem c3_1 (w : World) (A B C : Obj) : Below ((w.alloc A).alloc B).heap.size ((w.alloc A).alloc B) (((w.alloc A).alloc B).alloc C) := malloc1 _ _
theorem c3_2 (w : World) (A B : Obj) (cs : Array Value) (t : TypeId) (off : Nat) (v : Value) (h : cs[off]? = some v) : (((w.alloc A).alloc B).alloc (.cells cs t)).cell? ⟨w.heap.size + 1 + 1, off, none⟩ = some v := by
  have e : (((w.alloc A).alloc B).alloc (.cells cs t)).heap[w.heap.size + 1 + 1]? = some (.cells cs t) := mheap_new _ _ _ (by simp)
  simp only [World.cell?]
  rw [e]
  simpa using h
theorem f3_2 (w : World) (A B : Obj) (cs : Array Value) (t : TypeId) (off : Nat) : (((w.alloc A).alloc B).alloc (.cells cs t)).frozen? ⟨w.heap.size + 1 + 1, off, none⟩ = false := by
  have e : (((w.alloc A).alloc B).alloc (.cells cs t)).heap[w.heap.size + 1 + 1]? = some (.cells cs t) := mheap_new _ _ _ (by simp)
  simp only [World.frozen?]
  rw [e]
  simp
structure Mach where
  states : List RState
  edges : List REdge
  start : Int
def MachAt (w : World) (v : Value) (m : Mach) : Prop :=
  ∃ sv ev, v = .agg #[sv, ev, .int .i64 m.start] ∧ RStateSl w w.heap.size sv m.states ∧ REdgeSl w w.heap.size ev m.edges
theorem MachAt.carry {w w' : World} {v : Value} {m : Mach} (h : MachAt w v m) (hb : Below w.heap.size w w') : MachAt w' v m := by
  obtain ⟨sv, ev, e, h1, h2⟩ := h
  exact ⟨sv, ev, e, (h1.carry hb).up hb.size, (h2.carry hb).up hb.size⟩
def Mach.fit (m : Mach) : Prop := (∀ x ∈ m.states, x.fit) ∧ (∀ x ∈ m.edges, x.fit) ∧ m.states.length ≤ 1048576 ∧ m.edges.length ≤ 1048576
/-- a machine that is handed in -/
structure MachArg (w : World) (sa : Option Addr) (sc : Nat) (ea : Option Addr) (ec : Nat) (m : Mach) : Prop where
  sok : ∀ x ∈ m.states, x.ok
  eok : ∀ x ∈ m.edges, x.ok
  sl : m.states.length ≤ maxLen
  el : m.edges.length ≤ maxLen
  sr : m.states ≠ [] → ∃ b o, sa = some ⟨b, o, none⟩ ∧ b < w.heap.size ∧ RStates w b o m.states
  er : m.edges ≠ [] → ∃ b o, ea = some ⟨b, o, none⟩ ∧ b < w.heap.size ∧ REdges w b o m.edges
theorem MachArg.carry {w w' : World} {sa : Option Addr} {sc : Nat} {ea : Option Addr} {ec : Nat} {m : Mach} (h : MachArg w sa sc ea ec m) (hb : Below w.heap.size w w') : MachArg w' sa sc ea ec m := by
  refine ⟨h.sok, h.eok, h.sl, h.el, fun hne => ?_, fun hne => ?_⟩
  · obtain ⟨b, o, e, hlt, hr⟩ := h.sr hne
    exact ⟨b, o, e, Nat.lt_of_lt_of_le hlt hb.size, hr.carry hlt hb⟩
  · obtain ⟨b, o, e, hlt, hr⟩ := h.er hne
    exact ⟨b, o, e, Nat.lt_of_lt_of_le hlt hb.size, hr.carry hlt hb⟩
def machV (sa : Option Addr) (sc : Nat) (ea : Option Addr) (ec : Nat) (m : Mach) : Value := .agg #[.slice sa m.states.length sc, .slice ea m.edges.length ec, .int .i64 m.start]

set_option maxHeartbeats 400000 in
theorem sz_machine (m : Mach) (sa : Option Addr) (sc : Nat) (ea : Option Addr) (ec : Nat) (w : World) (h : MachArg w sa sc ea ec m) :
    Calls Tryz.prog 61 #[machV sa sc ea ec m, .int .i64 1048576] w fun e w' => ∃ r : Int, e = .returned (.int .i64 r) ∧ (0 ≤ r → m.fit) ∧ Below w.heap.size w w' := by
  have H := hide h
  unfold machV
  clear h
  go_enter Tryz.func61, Tryz.ntmps61
  go_wp2_with (first
    | (go_at_call 102; refine (sz_edges m.edges r1 ea ec _ H.out.eok H.out.el (by omega) hr1 (H.out.carry HB1.out).er).mono ?_; rintro e w2 ⟨r2, rfl, hr2, hf2, hb2⟩; have HF2 := hide hf2; have HB2 : Hid (Below w.heap.size w w2) := hide (HB1.out.trans (hb2.mono HB1.out.size)); clear hf2 hb2; by_cases hn2 : r2 < 0)
    | (go_at_call 101; refine (sz_states m.states 1048576 sa sc _ H.out.sok H.out.sl (by omega) (by omega) (H.out.carry (malloc1 _ _)).sr).mono ?_; rintro e w1 ⟨r1, rfl, hr1, hf1, hb1⟩; have HF1 := hide hf1; have HB1 : Hid (Below w.heap.size w w1) := hide ((malloc1 _ _).trans (hb1.mono (by simp))); have hz1 : w.heap.size < w1.heap.size := (by have := hb1.size; simp at this; omega); have x0 := (hb1.cell (p := ⟨w.heap.size, 0, none⟩) (by simp)); have x1 := (hb1.cell (p := ⟨w.heap.size, 1, none⟩) (by simp)); simp at x0 x1; clear hf1 hb1; by_cases hn1 : r1 < 0))
  · go_ret
    exact ⟨_, rfl, fun h => absurd h (by omega), HB1.out⟩
  · go_ret
    exact ⟨_, rfl, fun h => absurd h (by omega), HB2.out⟩
  · go_ret
    exact ⟨_, rfl, fun _ => ⟨(HF1.out (by omega)).2, (HF2.out (by omega)).2, (HF1.out (by omega)).1, (HF2.out (by omega)).1⟩, HB2.out⟩

set_option maxHeartbeats 1000000 in
theorem to_machine (m : Mach) (sa : Option Addr) (sc : Nat) (ea : Option Addr) (ec : Nat) (w : World) (h : MachArg w sa sc ea ec m) (hf : m.fit) :
    Calls Tryz.prog 65 #[machV sa sc ea ec m] w fun e w' => ∃ v', e = .returned v' ∧ MachAt w' v' m ∧ Below w.heap.size w w' := by
  have H := hide h
  have HF := hide hf
  unfold machV
  clear h hf
  have HW : Hid (∀ (o1 o2 o3 : Obj), Below w.heap.size w (((w.alloc o1).alloc o2).alloc o3)) := hide (fun o1 o2 o3 => ((malloc1 _ _).trans ((malloc1 _ _).mono (by simp))).trans ((malloc1 _ _).mono (by simp; omega)))
  go_enter Tryz.func65, Tryz.ntmps65
  go_wp2_with ((go_at_call 107; refine (to_states m.states sa sc _ HF.out.2.2.1 (H.out.carry (HW.out _ _ _)).sr).mono ?_; rintro e w1 ⟨v1, rfl, hs1, hoa1, hb1⟩; have HS1 := hide hs1; have HO1 := hide hoa1; obtain ⟨a1, c1, rfl, -⟩ := hs1; have HW1 : Hid (Below w.heap.size w w1) := hide ((HW.out _ _ _).trans (hb1.mono (HW.out _ _ _).size)); have hz1 : w.heap.size + 3 ≤ w1.heap.size := (by have := hb1.size; simp at this; omega); have p1 : w1.cell? ⟨w.heap.size, 1, none⟩ = some (.slice ea m.edges.length ec) := (hb1.cell (p := ⟨w.heap.size, 1, none⟩) (by first | (simp; done) | (simp; omega))).trans (((c3_0 _ _ _ _).cell (p := ⟨w.heap.size, 1, none⟩) (by simp)).trans (by simp)); have p2 : w1.cell? ⟨w.heap.size, 2, none⟩ = some (.int .i64 m.start) := (hb1.cell (p := ⟨w.heap.size, 2, none⟩) (by first | (simp; done) | (simp; omega))).trans (((c3_0 _ _ _ _).cell (p := ⟨w.heap.size, 2, none⟩) (by simp)).trans (by simp)); have q0 : w1.cell? ⟨w.heap.size + 1 + 1, 0, none⟩ = some (.slice none 0 0) := (hb1.cell (p := ⟨w.heap.size + 1 + 1, 0, none⟩) (by first | (simp; done) | (simp; omega))).trans (c3_2 _ _ _ _ _ _ _ rfl); have q1 : w1.cell? ⟨w.heap.size + 1 + 1, 1, none⟩ = some (.slice none 0 0) := (hb1.cell (p := ⟨w.heap.size + 1 + 1, 1, none⟩) (by first | (simp; done) | (simp; omega))).trans (c3_2 _ _ _ _ _ _ _ rfl); have q2 : w1.cell? ⟨w.heap.size + 1 + 1, 2, none⟩ = some (.int .i64 0) := (hb1.cell (p := ⟨w.heap.size + 1 + 1, 2, none⟩) (by first | (simp; done) | (simp; omega))).trans (c3_2 _ _ _ _ _ _ _ rfl); have r0 : w1.cell? ⟨w.heap.size + 1, 0, none⟩ = some (.slice none 0 0) := (hb1.cell (p := ⟨w.heap.size + 1, 0, none⟩) (by first | (simp; done) | (simp; omega))).trans (((c3_1 _ _ _ _).cell (p := ⟨w.heap.size + 1, 0, none⟩) (by simp)).trans (by simp)); have r1 : w1.cell? ⟨w.heap.size + 1, 1, none⟩ = some (.slice none 0 0) := (hb1.cell (p := ⟨w.heap.size + 1, 1, none⟩) (by first | (simp; done) | (simp; omega))).trans (((c3_1 _ _ _ _).cell (p := ⟨w.heap.size + 1, 1, none⟩) (by simp)).trans (by simp)); have r2 : w1.cell? ⟨w.heap.size + 1, 2, none⟩ = some (.int .i64 0) := (hb1.cell (p := ⟨w.heap.size + 1, 2, none⟩) (by first | (simp; done) | (simp; omega))).trans (((c3_1 _ _ _ _).cell (p := ⟨w.heap.size + 1, 2, none⟩) (by simp)).trans (by simp)); have fq0 : w1.frozen? ⟨w.heap.size + 1 + 1, 0, none⟩ = false := (hb1.frozen (p := ⟨w.heap.size + 1 + 1, 0, none⟩) (by first | (simp; done) | (simp; omega))).trans (f3_2 _ _ _ _ _ _); have fq1 : w1.frozen? ⟨w.heap.size + 1 + 1, 1, none⟩ = false := (hb1.frozen (p := ⟨w.heap.size + 1 + 1, 1, none⟩) (by first | (simp; done) | (simp; omega))).trans (f3_2 _ _ _ _ _ _); have fq2 : w1.frozen? ⟨w.heap.size + 1 + 1, 2, none⟩ = false := (hb1.frozen (p := ⟨w.heap.size + 1 + 1, 2, none⟩) (by first | (simp; done) | (simp; omega))).trans (f3_2 _ _ _ _ _ _); have fr0 : w1.frozen? ⟨w.heap.size + 1, 0, none⟩ = false := (hb1.frozen (p := ⟨w.heap.size + 1, 0, none⟩) (by first | (simp; done) | (simp; omega))).trans (((c3_1 _ _ _ _).frozen (p := ⟨w.heap.size + 1, 0, none⟩) (by simp)).trans (by simp)); have fr1 : w1.frozen? ⟨w.heap.size + 1, 1, none⟩ = false := (hb1.frozen (p := ⟨w.heap.size + 1, 1, none⟩) (by first | (simp; done) | (simp; omega))).trans (((c3_1 _ _ _ _).frozen (p := ⟨w.heap.size + 1, 1, none⟩) (by simp)).trans (by simp)); have fr2 : w1.frozen? ⟨w.heap.size + 1, 2, none⟩ = false := (hb1.frozen (p := ⟨w.heap.size + 1, 2, none⟩) (by first | (simp; done) | (simp; omega))).trans (((c3_1 _ _ _ _).frozen (p := ⟨w.heap.size + 1, 2, none⟩) (by simp)).trans (by simp)); have HB1 : Hid (Below w.heap.size w (w1.setCell ⟨w.heap.size + 1 + 1, 0, none⟩ (.slice a1 m.states.length c1))) := hide (HW1.out.setCell (Nat.le_trans (Nat.le_add_right _ 1) (Nat.le_add_right _ 1)) _); clear hb1 hoa1))
  go_wp2_with ((go_at_call 108; refine (to_edges m.edges ea ec _ HF.out.2.2.2 (H.out.carry HB1.out).er).mono ?_; rintro e w2 ⟨v2, rfl, hs2, hoa2, hb2⟩; have HS2 := hide hs2; have HO2 := hide hoa2; obtain ⟨a2, c2, rfl, -⟩ := hs2; have HB2 : Hid (Below w.heap.size w w2) := hide (HB1.out.trans (hb2.mono HB1.out.size)); have hz2 : w.heap.size + 3 ≤ w2.heap.size := (by have := hb2.size; simp at this; omega); have u2 := ((hb2.cell (p := ⟨w.heap.size, 2, none⟩) (by first | (simp; done) | (simp; omega))).trans (World.cell?_setCell_other _ _ _ _ (by simp))).trans p2; have t1 := ((hb2.cell (p := ⟨w.heap.size + 1 + 1, 1, none⟩) (by first | (simp; done) | (simp; omega))).trans (World.cell?_setCell_other _ _ _ _ (by simp))).trans q1; have t2 := ((hb2.cell (p := ⟨w.heap.size + 1 + 1, 2, none⟩) (by first | (simp; done) | (simp; omega))).trans (World.cell?_setCell_other _ _ _ _ (by simp))).trans q2; have s0 := ((hb2.cell (p := ⟨w.heap.size + 1, 0, none⟩) (by first | (simp; done) | (simp; omega))).trans (World.cell?_setCell_other _ _ _ _ (by simp))).trans r0; have s1 := ((hb2.cell (p := ⟨w.heap.size + 1, 1, none⟩) (by first | (simp; done) | (simp; omega))).trans (World.cell?_setCell_other _ _ _ _ (by simp))).trans r1; have s2 := ((hb2.cell (p := ⟨w.heap.size + 1, 2, none⟩) (by first | (simp; done) | (simp; omega))).trans (World.cell?_setCell_other _ _ _ _ (by simp))).trans r2; have t0 := ((hb2.cell (p := ⟨w.heap.size + 1 + 1, 0, none⟩) (by first | (simp; done) | (simp; omega))).trans (World.cell?_setCell_same _ _ _ q0)); have gq0 := ((hb2.frozen (p := ⟨w.heap.size + 1 + 1, 0, none⟩) (by first | (simp; done) | (simp; omega))).trans (World.frozen?_setCell _ _ _ _)).trans fq0; have gq1 := ((hb2.frozen (p := ⟨w.heap.size + 1 + 1, 1, none⟩) (by first | (simp; done) | (simp; omega))).trans (World.frozen?_setCell _ _ _ _)).trans fq1; have gq2 := ((hb2.frozen (p := ⟨w.heap.size + 1 + 1, 2, none⟩) (by first | (simp; done) | (simp; omega))).trans (World.frozen?_setCell _ _ _ _)).trans fq2; have gr0 := ((hb2.frozen (p := ⟨w.heap.size + 1, 0, none⟩) (by first | (simp; done) | (simp; omega))).trans (World.frozen?_setCell _ _ _ _)).trans fr0; have gr1 := ((hb2.frozen (p := ⟨w.heap.size + 1, 1, none⟩) (by first | (simp; done) | (simp; omega))).trans (World.frozen?_setCell _ _ _ _)).trans fr1; have gr2 := ((hb2.frozen (p := ⟨w.heap.size + 1, 2, none⟩) (by first | (simp; done) | (simp; omega))).trans (World.frozen?_setCell _ _ _ _)).trans fr2; have HBX := hide hb2; clear hb2 hoa2))
  have hs : ∀ (W : World) (x : Value) (p q : Addr), p ≠ q → (W.setCell p x).cell? q = W.cell? q := fun W x p q hpq => World.cell?_setCell_other _ _ _ _ hpq
  obtain ⟨W, hW⟩ : ∃ W, W = (((((w2.setCell ⟨w.heap.size + 1 + 1, 1, none⟩ (.slice a2 m.edges.length c2)).setCell ⟨w.heap.size + 1 + 1, 2, none⟩ (.int .i64 m.start)).setCell ⟨w.heap.size + 1, 0, none⟩ (.slice a1 m.states.length c1)).setCell ⟨w.heap.size + 1, 1, none⟩ (.slice a2 m.edges.length c2)).setCell ⟨w.heap.size + 1, 2, none⟩ (.int .i64 m.start)) := ⟨_, rfl⟩
  have z0 : W.cell? ⟨w.heap.size + 1, 0, none⟩ = some (.slice a1 m.states.length c1) := by
    rw [hW, hs _ _ _ _ (by simp), hs _ _ _ _ (by simp)]
    exact World.cell?_setCell_same _ _ _ (u := .slice none 0 0) (by rw [hs _ _ _ _ (by simp), hs _ _ _ _ (by simp)]; exact s0)
  have z1 : W.cell? ⟨w.heap.size + 1, 1, none⟩ = some (.slice a2 m.edges.length c2) := by
    rw [hW, hs _ _ _ _ (by simp)]
    exact World.cell?_setCell_same _ _ _ (u := .slice none 0 0) (by rw [hs _ _ _ _ (by simp), hs _ _ _ _ (by simp), hs _ _ _ _ (by simp)]; exact s1)
  have z2 : W.cell? ⟨w.heap.size + 1, 2, none⟩ = some (.int .i64 m.start) := by
    rw [hW]
    exact World.cell?_setCell_same _ _ _ (u := .int .i64 0) (by rw [hs _ _ _ _ (by simp), hs _ _ _ _ (by simp), hs _ _ _ _ (by simp), hs _ _ _ _ (by simp)]; exact s2)
  rw [← hW]
  have hset : Below (w.heap.size + 1) w2 W := by
    rw [hW]
    exact (((((Below.refl _ _).setCell (p := ⟨w.heap.size + 1 + 1, 1, none⟩) (Nat.le_add_right _ 1) _).setCell (p := ⟨w.heap.size + 1 + 1, 2, none⟩) (Nat.le_add_right _ 1) _).setCell (p := ⟨w.heap.size + 1, 0, none⟩) (Nat.le_refl _) _).setCell (p := ⟨w.heap.size + 1, 1, none⟩) (Nat.le_refl _) _).setCell (p := ⟨w.heap.size + 1, 2, none⟩) (Nat.le_refl _) _
  have hbW : Below w.heap.size w W := HB2.out.trans (hset.mono (by omega))
  refine bodyPost_ret_by (v := .agg #[.slice a1 m.states.length c1, .slice a2 m.edges.length c2, .int .i64 m.start]) ?_ rfl ⟨_, rfl, ⟨_, _, rfl, ?_, ?_⟩, hbW⟩
  · unfold results
    go_simp
  · refine HS1.out.keep (by have := hset.size; have := HBX.out.size; simp at this; omega) (fun b hb hlt => ?_)
    have h1 := (HO1.out.free b hb).1
    simp at h1
    have h2 : W.heap[b]? = w2.heap[b]? := by
      rw [hW, Below.heap_setCell _ _ _ _ (by show b ≠ w.heap.size + 1; omega), Below.heap_setCell _ _ _ _ (by show b ≠ w.heap.size + 1; omega), Below.heap_setCell _ _ _ _ (by show b ≠ w.heap.size + 1; omega), Below.heap_setCell _ _ _ _ (by show b ≠ w.heap.size + 1 + 1; omega), Below.heap_setCell _ _ _ _ (by show b ≠ w.heap.size + 1 + 1; omega)]
    rw [h2, HBX.out.block b (by simp; omega), Below.heap_setCell _ _ _ _ (by show b ≠ w.heap.size + 1 + 1; omega)]
  · refine HS2.out.keep (by have := hset.size; omega) (fun b hb hlt => ?_)
    have h1 := (HO2.out.free b hb).1
    simp at h1
    rw [hW, Below.heap_setCell _ _ _ _ (by show b ≠ w.heap.size + 1; omega), Below.heap_setCell _ _ _ _ (by show b ≠ w.heap.size + 1; omega), Below.heap_setCell _ _ _ _ (by show b ≠ w.heap.size + 1; omega), Below.heap_setCell _ _ _ _ (by show b ≠ w.heap.size + 1 + 1; omega), Below.heap_setCell _ _ _ _ (by show b ≠ w.heap.size + 1 + 1; omega)]

set_option maxHeartbeats 400000 in
theorem eq_machine (m : Mach) (v u : Value) (w : World) (hv : MachAt w v m) (hu : MachAt w u m) :
    Calls Tryz.prog 68 #[v, u] w fun e w' => e = .returned (.bool true) ∧ Below w.heap.size w w' := by
  obtain ⟨sv, ev, rfl, hs, he⟩ := hv
  obtain ⟨su, eu, rfl, hs', he'⟩ := hu
  have HS := hide hs
  have HE := hide he
  have HS' := hide hs'
  have HE' := hide he'
  obtain ⟨a1, c1, rfl, -⟩ := hs
  obtain ⟨a2, c2, rfl, -⟩ := he
  obtain ⟨a3, c3, rfl, -⟩ := hs'
  obtain ⟨a4, c4, rfl, -⟩ := he'
  have HW : Hid (∀ (o1 o2 : Obj), Below w.heap.size w ((w.alloc o1).alloc o2)) := hide (fun o1 o2 => (malloc1 _ _).trans ((malloc1 _ _).mono (by simp)))
  go_enter Tryz.func68, Tryz.ntmps68
  go_wp2_with (first
    | (go_at_call 115; refine (eq_edges m.edges _ _ _ ((HE.out.carry HB1.out).up HB1.out.size) ((HE'.out.carry HB1.out).up HB1.out.size)).mono ?_; rintro e w2 ⟨rfl, hb2⟩; have HB2 : Hid (Below w.heap.size w w2) := hide (HB1.out.trans (hb2.mono HB1.out.size)); have y0 := (hb2.cell (p := ⟨w.heap.size, 2, none⟩) (by show w.heap.size < _; omega)).trans x2; have y1 := (hb2.cell (p := ⟨w.heap.size + 1, 2, none⟩) (by show w.heap.size + 1 < _; omega)).trans x5; clear hb2)
    | (go_at_call 114; refine (eq_states m.states _ _ _ ((HS.out.carry (HW.out _ _)).up (HW.out _ _).size) ((HS'.out.carry (HW.out _ _)).up (HW.out _ _).size)).mono ?_; rintro e w1 ⟨rfl, hb1⟩; have HB1 : Hid (Below w.heap.size w w1) := hide ((HW.out _ _).trans (hb1.mono (by simp; omega))); have hz1 : w.heap.size + 2 ≤ w1.heap.size := (by have := hb1.size; simp at this; omega); have x1 := (hb1.cell (p := ⟨w.heap.size, 1, none⟩) (by simp; omega)); have x2 := (hb1.cell (p := ⟨w.heap.size, 2, none⟩) (by simp; omega)); have x4 := (hb1.cell (p := ⟨w.heap.size + 1, 1, none⟩) (by simp)); have x5 := (hb1.cell (p := ⟨w.heap.size + 1, 2, none⟩) (by simp)); simp at x1 x2 x4 x5; clear hb1))
  all_goals
    go_ret
    exact ⟨rfl, HB2.out⟩
end Go.Proofs.YtlcafjckaahmaaaGreat
