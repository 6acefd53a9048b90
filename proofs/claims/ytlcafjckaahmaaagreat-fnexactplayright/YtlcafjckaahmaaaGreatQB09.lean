/- rowAhead: at every row of Nodes and place. -/
import Derived.Test.YtlcafjckaahmaaaGreatQB02
import Derived.Test.YtlcafjckaahmaaaGreatQB04
import Derived.Test.YtlcafjckaahmaaaGreatQB06
import Derived.Test.YtlcafjckaahmaaaGreatQB08
import Derived.Test.YtlcafjckaahmaaaGreatQB01
import Derived.Deep.RegionHeld3
import Derived.Deep.DrawnRows
namespace Go.Proofs.YtlcafjckaahmaaaGreat
open Go.RowKit

theorem ahead_0 {T : Nd → Bool} {f : Nat} {st l : List Nd} {n : Nd} (h : n.op = 0) : ahead T f st (n :: l) = if endB n then some l else none := by
  cases f <;> simp [ahead, h]
theorem ahead_1 {T : Nd → Bool} {f : Nat} {st l : List Nd} {n : Nd} (h : n.op = 1) : ahead T f st (n :: l) = if varB n && backB false st n.name then some l else none := by
  cases f <;> simp [ahead, h]
theorem ahead_2 {T : Nd → Bool} {f : Nat} {st l : List Nd} {n : Nd} (h : n.op = 2) : ahead T (f + 1) st (n :: l) = if recB n && !withinB st n.name then ahead T f (n :: st) l else none := by
  simp [ahead, h]
theorem ahead_20 {T : Nd → Bool} {st l : List Nd} {n : Nd} (h : n.op = 2) : ahead T 0 st (n :: l) = none := by
  simp [ahead, h]
theorem ahead_t {T : Nd → Bool} {f : Nat} {st l : List Nd} {n : Nd} (h0 : n.op ≠ 0) (h1 : n.op ≠ 1) (h2 : n.op ≠ 2) : ahead T (f + 1) st (n :: l) = if T n then kidsBy (ahead T f (n :: st)) n.many.toNat [] l else none := by
  simp [ahead, h0, h1, h2]
theorem ahead_t0 {T : Nd → Bool} {st l : List Nd} {n : Nd} (h0 : n.op ≠ 0) (h1 : n.op ≠ 1) : ahead T 0 st (n :: l) = none := by
  simp [ahead, h0, h1]
theorem ahead_x {T : Nd → Bool} {f : Nat} {st l : List Nd} {n : Nd} (h0 : n.op ≠ 0) (h1 : n.op ≠ 1) (h2 : n.op ≠ 2) (h3 : T n = false) : ahead T f st (n :: l) = none := by
  cases f <;> simp [ahead, h0, h1, h2, h3]

theorem told_leaf {w w' : World} {B : Nat} {v : Value} {x : Bool} {r : Option (List Nd)} {l1 : List Nd} (hs : SlAt w B v l1) (hB : B ≤ w.heap.size) (hb : Below w.heap.size w w') (hx : r = if x then some l1 else none) : Told w' B (.returned (.tuple #[v, .bool x])) r ∧ Below w.heap.size w w' := by
  refine ⟨⟨v, ?_, ?_⟩, hb⟩
  · cases x <;> simp [hx]
  · intro l hl
    cases x
    · simp [hx] at hl
    · simp [hx] at hl
      subst hl
      exact hs.carry (hb.mono hB)
theorem told_none {w w' : World} {B : Nat} {v : Value} {r : Option (List Nd)} (hb : Below w.heap.size w w') (hx : r = none) : Told w' B (.returned (.tuple #[v, .bool false])) r ∧ Below w.heap.size w w' := by
  refine ⟨⟨v, by rw [hx]; rfl, ?_⟩, hb⟩
  rw [hx]; intro l hl; cases hl
theorem told_on {w w1 w' : World} {B : Nat} {e : Ending} {r r' : Option (List Nd)} (h : Told w' B e r') (hb1 : Below w.heap.size w w1) (hb2 : Below w1.heap.size w1 w') (hr : r = r') : Told w' B e r ∧ Below w.heap.size w w' :=
  ⟨hr ▸ h, hb1.trans (hb2.mono hb1.size)⟩
theorem boxed (w : World) (n : Nd) (t : TypeId) : NodeAt (w.alloc (.cells #[.int .i64 n.op, .string n.name, .string n.peer, .int .i64 n.many, .int .i64 n.sort] t)).drew w.heap.size 0 n := by
  simp [NodeAt]
end Go.Proofs.YtlcafjckaahmaaaGreat
/- Machines as a law holds them: apart, marked, held. -/
namespace Go.Proofs.YtlcafjckaahmaaaGreat
open Go.RowKit

theorem fresh_two {lo : Nat} {w : World} {p1 p2 : Option Addr} {n1 c1 n2 c2 : Nat} {z : Int} (h1 : MOwn lo w (.slice p1 n1 c1)) (h2 : MOwn lo w (.slice p2 n2 c2)) (hd : ∀ b, (Value.slice p1 n1 c1).ownBlock = some b → (Value.slice p2 n2 c2).ownBlock = some b → False) : Fresh lo w (.agg #[.slice p1 n1 c1, .slice p2 n2 c2, .int .i64 z]) := by
  have f1 := fresh_slice h1
  have f2 := fresh_slice h2
  have e : vblocks (.agg #[.slice p1 n1 c1, .slice p2 n2 c2, .int .i64 z]) = vblocks (.slice p1 n1 c1) ++ vblocks (.slice p2 n2 c2) := by
    cases p1 <;> cases p2 <;> simp [vblocks, cellBlocks]
  refine ⟨fun b hb => ?_, fun b hb => ?_, fun b hb => ?_, ?_⟩
  · rw [e, List.mem_append] at hb; exact hb.elim (f1.lo b) (f2.lo b)
  · rw [e, List.mem_append] at hb; exact hb.elim (f1.hi b) (f2.hi b)
  · rw [e, List.mem_append] at hb; exact hb.elim (f1.free b) (f2.free b)
  · rw [e, List.nodup_append]
    exact ⟨f1.nodup, f2.nodup, fun a ha b hb hab => by subst hab; exact hd a ((own_blocks rfl).2 ha) ((own_blocks rfl).2 hb)⟩
theorem two_blocks {p1 p2 : Option Addr} {n1 c1 n2 c2 : Nat} {z : Int} : vblocks (.agg #[.slice p1 n1 c1, .slice p2 n2 c2, .int .i64 z]) = vblocks (.slice p1 n1 c1) ++ vblocks (.slice p2 n2 c2) := by
  cases p1 <;> cases p2 <;> simp [vblocks, cellBlocks]
theorem mach_far {w w' : World} {v : Value} {m : Mach} {l : List Nat} (h : MachAt w v m) (ha : Apart w w' l) (hd : ∀ b ∈ l, w.heap.size ≤ b) : MachAt w' v m := by
  obtain ⟨sv, ev, rfl, h1, h2⟩ := h
  exact ⟨_, _, rfl, h1.far ha hd, h2.far ha hd⟩
theorem mach_sep {w w' : World} {v : Value} {m : Mach} {l : List Nat} (h : MachAt w v m) (ha : Apart w w' l) (hd : ∀ b ∈ vblocks v, b ∉ l) : MachAt w' v m := by
  obtain ⟨sv, ev, rfl, h1, h2⟩ := h
  have H1 := h1
  have H2 := h2
  obtain ⟨a1, c1, rfl, _⟩ := h1
  obtain ⟨a2, c2, rfl, _⟩ := h2
  rw [two_blocks] at hd
  exact ⟨_, _, rfl, H1.keep ha.size (fun b hb hlt => ha.block b hlt (hd b (List.mem_append_left _ ((own_blocks rfl).1 hb)))), H2.keep ha.size (fun b hb hlt => ha.block b hlt (hd b (List.mem_append_right _ ((own_blocks rfl).1 hb))))⟩

set_option maxHeartbeats 1000000 in
theorem mach_to (m : Mach) (sa : Option Addr) (sc : Nat) (ea : Option Addr) (ec : Nat) (w : World) (h : MachArg w sa sc ea ec m) (hf : m.fit) :
    Calls Tryz.prog 65 #[machV sa sc ea ec m] w fun e w' => ∃ v', e = .returned v' ∧ MachAt w' v' m ∧ Fresh w.heap.size w' v' ∧ Below w.heap.size w w' := by
  have H := hide h
  have HF := hide hf
  unfold machV
  clear h hf
  have HW : Hid (∀ (o1 o2 o3 : Obj), Below w.heap.size w (((w.alloc o1).alloc o2).alloc o3)) := hide (fun o1 o2 o3 => ((malloc1 _ _).trans ((malloc1 _ _).mono (by simp))).trans ((malloc1 _ _).mono (by simp; omega)))
  go_enter Tryz.func65, Tryz.ntmps65
  go_wp2_with ((go_at_call 107; refine (to_states m.states sa sc _ HF.out.2.2.1 (H.out.carry (HW.out _ _ _)).sr).mono ?_; rintro e w1 ⟨v1, rfl, hs1, hoa1, hb1⟩; have HS1 := hide hs1; have HO1 := hide hoa1; obtain ⟨a1, c1, rfl, -⟩ := hs1; have HW1 : Hid (Below w.heap.size w w1) := hide ((HW.out _ _ _).trans (hb1.mono (HW.out _ _ _).size)); have hz1 : w.heap.size + 3 ≤ w1.heap.size := (by have := hb1.size; simp at this; omega); have p1 : w1.cell? ⟨w.heap.size, 1, none⟩ = some (.slice ea m.edges.length ec) := (hb1.cell (p := ⟨w.heap.size, 1, none⟩) (by first | (simp; done) | (simp; omega))).trans (((c3_0 _ _ _ _).cell (p := ⟨w.heap.size, 1, none⟩) (by simp)).trans (by simp)); have p2 : w1.cell? ⟨w.heap.size, 2, none⟩ = some (.int .i64 m.start) := (hb1.cell (p := ⟨w.heap.size, 2, none⟩) (by first | (simp; done) | (simp; omega))).trans (((c3_0 _ _ _ _).cell (p := ⟨w.heap.size, 2, none⟩) (by simp)).trans (by simp)); have q0 : w1.cell? ⟨w.heap.size + 1 + 1, 0, none⟩ = some (.slice none 0 0) := (hb1.cell (p := ⟨w.heap.size + 1 + 1, 0, none⟩) (by first | (simp; done) | (simp; omega))).trans (c3_2 _ _ _ _ _ _ _ rfl); have q1 : w1.cell? ⟨w.heap.size + 1 + 1, 1, none⟩ = some (.slice none 0 0) := (hb1.cell (p := ⟨w.heap.size + 1 + 1, 1, none⟩) (by first | (simp; done) | (simp; omega))).trans (c3_2 _ _ _ _ _ _ _ rfl); have q2 : w1.cell? ⟨w.heap.size + 1 + 1, 2, none⟩ = some (.int .i64 0) := (hb1.cell (p := ⟨w.heap.size + 1 + 1, 2, none⟩) (by first | (simp; done) | (simp; omega))).trans (c3_2 _ _ _ _ _ _ _ rfl); have r0 : w1.cell? ⟨w.heap.size + 1, 0, none⟩ = some (.slice none 0 0) := (hb1.cell (p := ⟨w.heap.size + 1, 0, none⟩) (by first | (simp; done) | (simp; omega))).trans (((c3_1 _ _ _ _).cell (p := ⟨w.heap.size + 1, 0, none⟩) (by simp)).trans (by simp)); have r1 : w1.cell? ⟨w.heap.size + 1, 1, none⟩ = some (.slice none 0 0) := (hb1.cell (p := ⟨w.heap.size + 1, 1, none⟩) (by first | (simp; done) | (simp; omega))).trans (((c3_1 _ _ _ _).cell (p := ⟨w.heap.size + 1, 1, none⟩) (by simp)).trans (by simp)); have r2 : w1.cell? ⟨w.heap.size + 1, 2, none⟩ = some (.int .i64 0) := (hb1.cell (p := ⟨w.heap.size + 1, 2, none⟩) (by first | (simp; done) | (simp; omega))).trans (((c3_1 _ _ _ _).cell (p := ⟨w.heap.size + 1, 2, none⟩) (by simp)).trans (by simp)); have fq0 : w1.frozen? ⟨w.heap.size + 1 + 1, 0, none⟩ = false := (hb1.frozen (p := ⟨w.heap.size + 1 + 1, 0, none⟩) (by first | (simp; done) | (simp; omega))).trans (f3_2 _ _ _ _ _ _); have fq1 : w1.frozen? ⟨w.heap.size + 1 + 1, 1, none⟩ = false := (hb1.frozen (p := ⟨w.heap.size + 1 + 1, 1, none⟩) (by first | (simp; done) | (simp; omega))).trans (f3_2 _ _ _ _ _ _); have fq2 : w1.frozen? ⟨w.heap.size + 1 + 1, 2, none⟩ = false := (hb1.frozen (p := ⟨w.heap.size + 1 + 1, 2, none⟩) (by first | (simp; done) | (simp; omega))).trans (f3_2 _ _ _ _ _ _); have fr0 : w1.frozen? ⟨w.heap.size + 1, 0, none⟩ = false := (hb1.frozen (p := ⟨w.heap.size + 1, 0, none⟩) (by first | (simp; done) | (simp; omega))).trans (((c3_1 _ _ _ _).frozen (p := ⟨w.heap.size + 1, 0, none⟩) (by simp)).trans (by simp)); have fr1 : w1.frozen? ⟨w.heap.size + 1, 1, none⟩ = false := (hb1.frozen (p := ⟨w.heap.size + 1, 1, none⟩) (by first | (simp; done) | (simp; omega))).trans (((c3_1 _ _ _ _).frozen (p := ⟨w.heap.size + 1, 1, none⟩) (by simp)).trans (by simp)); have fr2 : w1.frozen? ⟨w.heap.size + 1, 2, none⟩ = false := (hb1.frozen (p := ⟨w.heap.size + 1, 2, none⟩) (by first | (simp; done) | (simp; omega))).trans (((c3_1 _ _ _ _).frozen (p := ⟨w.heap.size + 1, 2, none⟩) (by simp)).trans (by simp)); have HB1 : Hid (Below w.heap.size w (w1.setCell ⟨w.heap.size + 1 + 1, 0, none⟩ (.slice a1 m.states.length c1))) := hide (HW1.out.setCell (Nat.le_trans (Nat.le_add_right _ 1) (Nat.le_add_right _ 1)) _); clear hb1 hoa1))
  go_wp2_with ((go_at_call 108; refine (to_edges m.edges ea ec _ HF.out.2.2.2 (H.out.carry HB1.out).er).mono ?_; rintro e w2 ⟨v2, rfl, hs2, hoa2, hb2⟩; have HS2 := hide hs2; have HO2 := hide hoa2; obtain ⟨a2, c2, rfl, -⟩ := hs2; have HB2 : Hid (Below w.heap.size w w2) := hide (HB1.out.trans (hb2.mono HB1.out.size)); have hz2 : w.heap.size + 3 ≤ w2.heap.size := (by have := hb2.size; simp at this; omega); have u2 := ((hb2.cell (p := ⟨w.heap.size, 2, none⟩) (by first | (simp; done) | (simp; omega))).trans (World.cell?_setCell_other _ _ _ _ (by simp))).trans p2; have t1 := ((hb2.cell (p := ⟨w.heap.size + 1 + 1, 1, none⟩) (by first | (simp; done) | (simp; omega))).trans (World.cell?_setCell_other _ _ _ _ (by simp))).trans q1; have t2 := ((hb2.cell (p := ⟨w.heap.size + 1 + 1, 2, none⟩) (by first | (simp; done) | (simp; omega))).trans (World.cell?_setCell_other _ _ _ _ (by simp))).trans q2; have s0 := ((hb2.cell (p := ⟨w.heap.size + 1, 0, none⟩) (by first | (simp; done) | (simp; omega))).trans (World.cell?_setCell_other _ _ _ _ (by simp))).trans r0; have s1 := ((hb2.cell (p := ⟨w.heap.size + 1, 1, none⟩) (by first | (simp; done) | (simp; omega))).trans (World.cell?_setCell_other _ _ _ _ (by simp))).trans r1; have s2 := ((hb2.cell (p := ⟨w.heap.size + 1, 2, none⟩) (by first | (simp; done) | (simp; omega))).trans (World.cell?_setCell_other _ _ _ _ (by simp))).trans r2; have t0 := ((hb2.cell (p := ⟨w.heap.size + 1 + 1, 0, none⟩) (by first | (simp; done) | (simp; omega))).trans (World.cell?_setCell_same _ _ _ q0)); have gq0 := ((hb2.frozen (p := ⟨w.heap.size + 1 + 1, 0, none⟩) (by first | (simp; done) | (simp; omega))).trans (World.frozen?_setCell _ _ _ _)).trans fq0; have gq1 := ((hb2.frozen (p := ⟨w.heap.size + 1 + 1, 1, none⟩) (by first | (simp; done) | (simp; omega))).trans (World.frozen?_setCell _ _ _ _)).trans fq1; have gq2 := ((hb2.frozen (p := ⟨w.heap.size + 1 + 1, 2, none⟩) (by first | (simp; done) | (simp; omega))).trans (World.frozen?_setCell _ _ _ _)).trans fq2; have gr0 := ((hb2.frozen (p := ⟨w.heap.size + 1, 0, none⟩) (by first | (simp; done) | (simp; omega))).trans (World.frozen?_setCell _ _ _ _)).trans fr0; have gr1 := ((hb2.frozen (p := ⟨w.heap.size + 1, 1, none⟩) (by first | (simp; done) | (simp; omega))).trans (World.frozen?_setCell _ _ _ _)).trans fr1; have gr2 := ((hb2.frozen (p := ⟨w.heap.size + 1, 2, none⟩) (by first | (simp; done) | (simp; omega))).trans (World.frozen?_setCell _ _ _ _)).trans fr2; have HBX := hide hb2; clear hb2 hoa2))
  have hs : ∀ (W : World) (x : Value) (p q : Addr), p ≠ q → (W.setCell p x).cell? q = W.cell? q := fun W x p q hpq => World.cell?_setCell_other _ _ _ _ hpq
  obtain ⟨W, hW⟩ : ∃ W, W = (((((w2.setCell ⟨w.heap.size + 1 + 1, 1, none⟩ (.slice a2 m.edges.length c2)).setCell ⟨w.heap.size + 1 + 1, 2, none⟩ (.int .i64 m.start)).setCell ⟨w.heap.size + 1, 0, none⟩ (.slice a1 m.states.length c1)).setCell ⟨w.heap.size + 1, 1, none⟩ (.slice a2 m.edges.length c2)).setCell ⟨w.heap.size + 1, 2, none⟩ (.int .i64 m.start)) := ⟨_, rfl⟩
  have z0 : W.cell? ⟨w.heap.size + 1, 0, none⟩ = some (.slice a1 m.states.length c1) := by
    rw [hW, hs _ _ _ _ (by simp), hs _ _ _ _ (by simp)]
    exact World.cell?_setCell_same _ _ _ (u := .slice none 0 0) (by rw [hs _ _ _ _ (by simp), hs _ _ _ _ (by simp)]; exact s0)
  have z1 : W.cell? ⟨w.heap.size + 1, 1, none⟩ = some (.slice a2 m.edges.length c2) := by
    rw [hW, hs _ _ _ _ (by simp)]
    exact World.cell?_setCell_same _ _ _ (u := .slice none 0 0) (by rw [hs _ _ _ _ (by simp), hs _ _ _ _ (by simp), hs _ _ _ _ (by simp)]; exact s1)
  have z2 : W.cell? ⟨w.heap.size + 1, 2, none⟩ = some (.int .i64 m.start) := by
    rw [hW]
    exact World.cell?_setCell_same _ _ _ (u := .int .i64 0) (by rw [hs _ _ _ _ (by simp), hs _ _ _ _ (by simp), hs _ _ _ _ (by simp), hs _ _ _ _ (by simp)]; exact s2)
  rw [← hW]
  have hset : Below (w.heap.size + 1) w2 W := by
    rw [hW]
    exact (((((Below.refl _ _).setCell (p := ⟨w.heap.size + 1 + 1, 1, none⟩) (Nat.le_add_right _ 1) _).setCell (p := ⟨w.heap.size + 1 + 1, 2, none⟩) (Nat.le_add_right _ 1) _).setCell (p := ⟨w.heap.size + 1, 0, none⟩) (Nat.le_refl _) _).setCell (p := ⟨w.heap.size + 1, 1, none⟩) (Nat.le_refl _) _).setCell (p := ⟨w.heap.size + 1, 2, none⟩) (Nat.le_refl _) _
  have hbW : Below w.heap.size w W := HB2.out.trans (hset.mono (by omega))
  refine bodyPost_ret_by (v := .agg #[.slice a1 m.states.length c1, .slice a2 m.edges.length c2, .int .i64 m.start]) ?_ rfl ⟨_, rfl, ⟨_, _, rfl, ?_, ?_⟩, ?_, hbW⟩
  · unfold results
    go_simp
  · refine HS1.out.keep (by have := hset.size; have := HBX.out.size; simp at this; omega) (fun b hb hlt => ?_)
    have h1 := (HO1.out.free b hb).1
    simp at h1
    have h2 : W.heap[b]? = w2.heap[b]? := by
      rw [hW, Below.heap_setCell _ _ _ _ (by show b ≠ w.heap.size + 1; omega), Below.heap_setCell _ _ _ _ (by show b ≠ w.heap.size + 1; omega), Below.heap_setCell _ _ _ _ (by show b ≠ w.heap.size + 1; omega), Below.heap_setCell _ _ _ _ (by show b ≠ w.heap.size + 1 + 1; omega), Below.heap_setCell _ _ _ _ (by show b ≠ w.heap.size + 1 + 1; omega)]
    rw [h2, HBX.out.block b (by simp; omega), Below.heap_setCell _ _ _ _ (by show b ≠ w.heap.size + 1 + 1; omega)]
  · refine HS2.out.keep (by have := hset.size; omega) (fun b hb hlt => ?_)
    have h1 := (HO2.out.free b hb).1
    simp at h1
    rw [hW, Below.heap_setCell _ _ _ _ (by show b ≠ w.heap.size + 1; omega), Below.heap_setCell _ _ _ _ (by show b ≠ w.heap.size + 1; omega), Below.heap_setCell _ _ _ _ (by show b ≠ w.heap.size + 1; omega), Below.heap_setCell _ _ _ _ (by show b ≠ w.heap.size + 1 + 1; omega), Below.heap_setCell _ _ _ _ (by show b ≠ w.heap.size + 1 + 1; omega)]
  · have z1 := HW1.out.size
    have z2 := HBX.out.size
    have z3 := hset.size
    simp at z2
    have hfz : ∀ b j, W.frozen? ⟨b, j, none⟩ = w2.frozen? ⟨b, j, none⟩ := fun b j => by
      rw [hW, World.frozen?_setCell, World.frozen?_setCell, World.frozen?_setCell, World.frozen?_setCell, World.frozen?_setCell]
    refine fresh_two ⟨fun b hb => ?_⟩ ⟨fun b hb => ?_⟩ (fun b hb hb' => ?_)
    · have h1 := HO1.out.free b hb
      simp at h1
      refine ⟨by omega, by omega, fun j => ?_⟩
      rw [hfz, HBX.out.frozen (p := ⟨b, j, none⟩) (by simp; omega), World.frozen?_setCell]
      exact h1.2.2 j
    · have h1 := HO2.out.free b hb
      simp at h1
      exact ⟨by omega, by omega, fun j => (hfz b j).trans (h1.2.2 j)⟩
    · have h1 := (HO1.out.free b hb).2.1
      have h2 := (HO2.out.free b hb').1
      simp at h2
      omega


set_option maxHeartbeats 400000 in
theorem sz2_machine (m : Mach) (left : Int) (h0 : 0 ≤ left) (hle : left ≤ 1048576) (sa : Option Addr) (sc : Nat) (ea : Option Addr) (ec : Nat) (w : World) (h : MachArg w sa sc ea ec m) :
    Calls Tryz.prog 61 #[machV sa sc ea ec m, .int .i64 left] w fun e w' => ∃ r : Int, e = .returned (.int .i64 r) ∧ r ≤ 1048576 ∧ (0 ≤ r → m.fit ∧ r + ((m.states.length + m.edges.length : Nat) : Int) ≤ left) ∧ Below w.heap.size w w' := by
  have H := hide h
  unfold machV
  clear h
  go_enter Tryz.func61, Tryz.ntmps61
  go_wp2_with (first
    | (go_at_call 102; refine (sz2_edges m.edges r1 ea ec _ H.out.eok H.out.el (by omega) hr1 (H.out.carry HB1.out).er).mono ?_; rintro e w2 ⟨r2, rfl, hr2, hf2, hb2⟩; have HF2 := hide hf2; have HB2 : Hid (Below w.heap.size w w2) := hide (HB1.out.trans (hb2.mono HB1.out.size)); clear hf2 hb2; by_cases hn2 : r2 < 0)
    | (go_at_call 101; refine (sz2_states m.states left sa sc _ H.out.sok H.out.sl h0 hle (H.out.carry (malloc1 _ _)).sr).mono ?_; rintro e w1 ⟨r1, rfl, hr1, hf1, hb1⟩; have HF1 := hide hf1; have HB1 : Hid (Below w.heap.size w w1) := hide ((malloc1 _ _).trans (hb1.mono (by simp))); have hz1 : w.heap.size < w1.heap.size := (by have := hb1.size; simp at this; omega); have x0 := (hb1.cell (p := ⟨w.heap.size, 0, none⟩) (by simp)); have x1 := (hb1.cell (p := ⟨w.heap.size, 1, none⟩) (by simp)); simp at x0 x1; clear hf1 hb1; by_cases hn1 : r1 < 0))
  · go_ret
    exact ⟨_, rfl, by omega, fun h => absurd h (by omega), HB1.out⟩
  · go_ret
    exact ⟨_, rfl, by omega, fun h => absurd h (by omega), HB2.out⟩
  · go_ret
    refine ⟨_, rfl, hr2, fun _ => ?_, HB2.out⟩
    have e1 := HF1.out (by omega)
    have e2 := HF2.out (by omega)
    exact ⟨⟨e1.2, e2.2, by omega, by omega⟩, by omega⟩

def markMach (k : Nat) (m : Mach) : Mach := ⟨markRStates k m.states.length, markREdges (k + m.states.length * 2) m.edges.length, m.start⟩
def machN (m : Mach) : Nat := m.states.length * 2 + m.edges.length * 4
end Go.Proofs.YtlcafjckaahmaaaGreat
/- Edges compared: cmp.Compare, cmp.Or, compareEdges. -/
namespace Go.Proofs.YtlcafjckaahmaaaGreat
open Go.RowKit
attribute [local go_sem ↓] Go.wp_at_zero Go.wp_at_succ

def cmpI (a b : Int) : Int := if a < b then -1 else if b < a then 1 else 0
def cmpS (a b : ByteArray) : Int := if Op.bytesLess a.toList b.toList then -1 else if a.toList == b.toList then 0 else 1
theorem is_nan_int (a : Int) (w : World) : Calls Tryz.prog 188 #[.int .i64 a] w fun e w' => e = .returned (.bool false) ∧ w' = w := by
  go_enter Tryz.func188, Tryz.ntmps188
  go_wp2_with fail
  go_ret
  exact ⟨ret_bool (by simp), rfl⟩
theorem is_nan_str (a : ByteArray) (w : World) : Calls Tryz.prog 189 #[.string a] w fun e w' => e = .returned (.bool false) ∧ w' = w := by
  go_enter Tryz.func189, Tryz.ntmps189
  go_wp2_with fail
  go_ret
  exact ⟨ret_bool (by simp), rfl⟩
theorem compare_int (a b : Int) (w : World) : Calls Tryz.prog 150 #[.int .i64 a, .int .i64 b] w fun e w' => e = .returned (.int .i64 (cmpI a b)) ∧ w' = w := by
  by_cases h1 : a < b
  · have HE : Hid (cmpI a b = -1) := hide (by rw [cmpI, if_pos h1])
    go_enter Tryz.func150, Tryz.ntmps150
    go_wp2_with (go_at_call 188; refine (is_nan_int _ _).mono ?_; rintro e w' ⟨rfl, rfl⟩)
    go_ret
    exact ⟨ret_int HE.out, rfl⟩
  · by_cases h2 : b < a
    · have HE : Hid (cmpI a b = 1) := hide (by rw [cmpI, if_neg h1, if_pos h2])
      go_enter Tryz.func150, Tryz.ntmps150
      go_wp2_with (go_at_call 188; refine (is_nan_int _ _).mono ?_; rintro e w' ⟨rfl, rfl⟩)
      go_ret
      exact ⟨ret_int HE.out, rfl⟩
    · have HE : Hid (cmpI a b = 0) := hide (by rw [cmpI, if_neg h1, if_neg h2])
      go_enter Tryz.func150, Tryz.ntmps150
      go_wp2_with (go_at_call 188; refine (is_nan_int _ _).mono ?_; rintro e w' ⟨rfl, rfl⟩)
      go_ret
      exact ⟨ret_int HE.out, rfl⟩
theorem compare_str (a b : ByteArray) (w : World) : Calls Tryz.prog 151 #[.string a, .string b] w fun e w' => e = .returned (.int .i64 (cmpS a b)) ∧ w' = w := by
  cases h1 : Op.bytesLess a.toList b.toList
  · cases h2 : (a.toList == b.toList)
    · have HE : Hid (cmpS a b = 1) := hide (by simp [cmpS, h1, h2])
      go_enter Tryz.func151, Tryz.ntmps151
      go_wp2_with (go_at_call 189; refine (is_nan_str _ _).mono ?_; rintro e w' ⟨rfl, rfl⟩)
      go_ret
      exact ⟨ret_int HE.out, rfl⟩
    · have HE : Hid (cmpS a b = 0) := hide (by simp [cmpS, h1, h2])
      go_enter Tryz.func151, Tryz.ntmps151
      go_wp2_with (go_at_call 189; refine (is_nan_str _ _).mono ?_; rintro e w' ⟨rfl, rfl⟩)
      go_ret
      exact ⟨ret_int HE.out, rfl⟩
  · have HE : Hid (cmpS a b = -1) := hide (by simp [cmpS, h1])
    go_enter Tryz.func151, Tryz.ntmps151
    go_wp2_with (go_at_call 189; refine (is_nan_str _ _).mono ?_; rintro e w' ⟨rfl, rfl⟩)
    go_ret
    exact ⟨ret_int HE.out, rfl⟩
def orI (a b : Int) : Int := if a = 0 then b else a
set_option maxHeartbeats 400000 in
theorem cmp_or (a b : Int) (g : Nat) (w : World) (h0 : w.cell? ⟨g, 0, none⟩ = some (.int .i64 a)) (h1 : w.cell? ⟨g, 1, none⟩ = some (.int .i64 b)) :
    Calls Tryz.prog 149 #[.slice (some ⟨g, 0, none⟩) 2 2] w fun e w' => e = .returned (.int .i64 (orI a b)) ∧ w' = w := by
  have HE : Hid (orI a b = if a = 0 then b else a) := hide rfl
  go_enter Tryz.func149, Tryz.ntmps149
  go_wp2_with fail
  go_loop [8] (fun i => i = .int .i64 0 ∨ (i = .int .i64 1 ∧ a = 0) ∨ (i = .int .i64 2 ∧ a = 0 ∧ b = 0)) (fun i => 2 - (intOf i).toNat)
  case atStart => exact .inl rfl
  case round =>
    rcases hrel with rfl | ⟨rfl, ha⟩ | ⟨rfl, ha, hb⟩
    · by_cases ha : a = 0
      · have ha' : (a != 0) = false := by simp [ha]
        have HA := hide ha
        clear ha
        go_wp2_with fail
        go_round
        case rel => exact .inr (.inl ⟨rfl, HA.out⟩)
        case measure => simp [intOf]
      · have ha' : (a != 0) = true := by simp [ha]
        have HA := hide ha
        clear ha
        go_wp2_with fail
        go_ret
        exact ⟨ret_int (by rw [HE.out, if_neg HA.out]), rfl⟩
    · have HA := hide ha
      clear ha
      by_cases hb : b = 0
      · have hb' : (b != 0) = false := by simp [hb]
        have HB := hide hb
        clear hb
        go_wp2_with fail
        go_round
        case rel => exact .inr (.inr ⟨rfl, HA.out, HB.out⟩)
        case measure => simp [intOf]
      · have hb' : (b != 0) = true := by simp [hb]
        clear hb
        go_wp2_with fail
        go_ret
        exact ⟨ret_int (by rw [HE.out, if_pos HA.out]), rfl⟩
    · have HA := hide ha
      have HB := hide hb
      clear ha hb
      go_wp2_with fail
      go_ret
      exact ⟨ret_int (by rw [HE.out, if_pos HA.out, HB.out]), rfl⟩
def cmpE (a b : REdge) : Int := orI (cmpI a.src b.src) (cmpS a.label b.label)
set_option maxHeartbeats 1000000 in
theorem compare_edges (a b : REdge) (w : World) :
    Calls Tryz.prog 113 #[a.val, b.val] w fun e w' => e = .returned (.int .i64 (cmpE a b)) ∧ Below w.heap.size w w' := by
  have HE : Hid (cmpE a b = orI (cmpI a.src b.src) (cmpS a.label b.label)) := hide rfl
  unfold REdge.val
  go_enter Tryz.func113, Tryz.ntmps113
  go_wp2_with fail
  have hwb : Below w.heap.size w ((w.alloc (.cells #[.int .i64 a.src, .string a.label, .int .i64 a.sort, .int .i64 a.dst] 154)).alloc (.cells #[.int .i64 b.src, .string b.label, .int .i64 b.sort, .int .i64 b.dst] 154)) := (malloc1 _ _).trans ((malloc1 _ _).mono (by simp))
  have HWB := hide hwb
  clear hwb
  go_region_held3 (fun w' => w'.cell? ⟨w.heap.size, 0, none⟩ = some (.int .i64 a.src) ∧ w'.cell? ⟨w.heap.size, 1, none⟩ = some (.string a.label) ∧ w'.cell? ⟨w.heap.size + 1, 0, none⟩ = some (.int .i64 b.src) ∧ w'.cell? ⟨w.heap.size + 1, 1, none⟩ = some (.string b.label)) (go_keep)
    (first | (go_at_call 150; refine (compare_int _ _ _).mono ?_; rintro e w' ⟨rfl, rfl⟩) | (go_at_call 151; refine (compare_str _ _ _).mono ?_; rintro e w' ⟨rfl, rfl⟩) | (go_at_call 149; refine (cmp_or (cmpI a.src b.src) (cmpS a.label b.label) _ _ (by exact c3_2 _ _ _ _ _ _ _ rfl) (by exact c3_2 _ _ _ _ _ _ _ rfl)).mono ?_; rintro e w' ⟨rfl, rfl⟩))
  all_goals
    go_wp2_with fail
    go_ret
    exact ⟨ret_int HE.out, by first | exact HWB.out.trans ((malloc1 _ _).mono HWB.out.size) | exact HWB.out.drew.trans ((malloc1 _ _).mono HWB.out.drew.size) | exact (HWB.out.trans ((malloc1 _ _).mono HWB.out.size)).drew⟩
end Go.Proofs.YtlcafjckaahmaaaGreat
/- MachineRight of the program: its small functions. -/
namespace Go.Proofs.YtlcafjckaahmaaaGreat
open Go.RowKit
attribute [local go_sem ↓] Go.wp_at_zero Go.wp_at_succ

theorem MachAt.shape {w : World} {v : Value} {m : Mach} (h : MachAt w v m) : ∃ sa sc ea ec, v = machV sa sc ea ec m := by
  obtain ⟨sv, ev, rfl, ⟨sa, sc, rfl, _⟩, ⟨ea, ec, rfl, _⟩⟩ := h
  exact ⟨sa, sc, ea, ec, rfl⟩
theorem malloc2 (w : World) (a b : Obj) : Below w.heap.size w ((w.alloc a).alloc b) := (malloc1 _ _).trans ((malloc1 _ _).mono (by simp))

set_option maxHeartbeats 400000 in
theorem has_state {q : Bool} {m : Mach} {s : Int} (hq : inB s 0 ((m.states.length : Int) - 1) = q) (v : Value) (w : World) (hv : MachAt w v m) :
    Calls Tryz.prog 110 #[v, .int .i64 s] w fun e w' => e = .returned (.bool q) ∧ Below w.heap.size w w' := by
  have hsl : m.states.length ≤ 4294967296 := by obtain ⟨sv, ev, rfl, hs, he⟩ := hv; exact hs.lenm
  obtain ⟨sa, sc, ea, ec, rfl⟩ := hv.shape
  clear hv
  unfold machV
  have HQ := hide hq
  by_cases h0 : 0 ≤ s
  · by_cases h1 : s < (m.states.length : Int)
    · have HT : Hid (q = true) := hide (by rw [← hq]; simp [inB, h0]; omega)
      clear hq
      go_enter Tryz.func110, Tryz.ntmps110
      go_wp2_with fail
      go_ret
      exact ⟨ret_bool HT.out, malloc1 _ _⟩
    · have HT : Hid (q = false) := hide (by rw [← hq]; simp [inB, h0]; omega)
      clear hq
      go_enter Tryz.func110, Tryz.ntmps110
      go_wp2_with fail
      go_ret
      exact ⟨ret_bool HT.out, malloc1 _ _⟩
  · have HT : Hid (q = false) := hide (by rw [← hq]; simp [inB, h0])
    clear hq
    go_enter Tryz.func110, Tryz.ntmps110
    go_wp2_with fail
    go_ret
    exact ⟨ret_bool HT.out, malloc1 _ _⟩

theorem is_end {q : Bool} {x : RState} (hq : (x.kind == 0) = q) (w : World) :
    Calls Tryz.prog 99 #[x.val] w fun e w' => e = .returned (.bool q) ∧ Below w.heap.size w w' := by
  unfold RState.val
  cases q
  all_goals
    go_enter Tryz.func99, Tryz.ntmps99
    go_wp2_with fail
    go_ret
    exact ⟨ret_bool (by first | exact hq.symm | rfl), malloc1 _ _⟩

theorem mi_sort {q : Bool} {n : Int} (hq : inB n 0 2 = q) (w : World) :
    Calls Tryz.prog 148 #[.int .i64 n] w fun e w' => e = .returned (.bool q) ∧ w' = w := by
  have HQ := hide hq
  clear hq
  by_cases h : 0 ≤ n
  all_goals
    go_enter Tryz.func148, Tryz.ntmps148
    go_wp2_with fail
    go_ret
    exact ⟨ret_bool (by rw [← HQ.out]; simp [inB, *]; try omega), rfl⟩
theorem impl_name_at {q : Bool} {s : ByteArray} (h : nameB s = q) (hs : s.size ≤ maxLen) (w : World) :
    Calls Tryz.prog 75 #[.string s] w fun e w' => e = .returned (.bool q) ∧ w' = w := by subst h; exact impl_name s w hs

set_option maxHeartbeats 400000 in
theorem state_right {q : Bool} {x : RState} (hq : mstB x = q) (hp : x.peer.size ≤ maxLen) (w : World) :
    Calls Tryz.prog 111 #[x.val] w fun e w' => e = .returned (.bool q) ∧ Below w.heap.size w w' := by
  have HP := hide hp
  obtain ⟨nb, hnb⟩ : ∃ nb, nameB x.peer = nb := ⟨_, rfl⟩
  have HNB := hide hnb
  obtain ⟨k0, hk0⟩ : ∃ k0, (x.kind == 0) = k0 := ⟨_, rfl⟩
  obtain ⟨k1, hk1⟩ : ∃ k1, (x.kind == 1) = k1 := ⟨_, rfl⟩
  obtain ⟨k2, hk2⟩ : ∃ k2, (x.kind == 2) = k2 := ⟨_, rfl⟩
  obtain ⟨pe, hpe⟩ : ∃ pe, (x.peer.toList == []) = pe := ⟨_, rfl⟩
  have HQ : Hid (q = if k0 then pe else nb && (k1 || k2)) := hide (by
    rw [← hq, mstB, hk0, hpe, hnb]
    cases k0
    · have : inB x.kind 0 2 = (k1 || k2) := by
        rw [← hk1, ← hk2, inB, Bool.eq_iff_iff]; simp at hk0 ⊢; omega
      simp [this]
    · rfl)
  clear hq hp hnb
  unfold RState.val
  cases k0
  all_goals cases k1
  all_goals cases k2
  all_goals
    go_enter Tryz.func111, Tryz.ntmps111
    go_wp2_with (go_at_call 75; refine (impl_name_at HNB.out HP.out _).mono ?_; rintro e w' ⟨rfl, rfl⟩)
    go_ret
    exact ⟨ret_bool (by rw [HQ.out]; simp [*]), malloc1 _ _⟩
end Go.Proofs.YtlcafjckaahmaaaGreat
