/- StepOf of the specification. -/
import Derived.Test.YthaomohoiginnaaActEq
import Derived.Test.YthaomohoiginnaaActsS0
namespace Go.Proofs.Ythaomohoiginnaa
open Go.RowKit
attribute [local go_sem ↓] Go.wp_at_zero Go.wp_at_succ

def hitB (m : Mach) (s : Int) (a : RAct) (e : REdge) : Bool := e.src == s && actEq a (actE m s e)
theorem stepF_hit {m : Mach} {s : Int} {a : RAct} {k : Nat} (hk : k < m.edges.length) (hn : ∀ j (hj : j < m.edges.length), j < k → hitB m s a m.edges[j] = false) (hh : hitB m s a m.edges[k] = true) : stepF m s a = m.edges[k].dst := by
  have : m.edges.find? (fun e => e.src == s && actEq a (actE m s e)) = some m.edges[k] := by
    rw [List.find?_eq_some_iff_getElem]
    exact ⟨hh, k, hk, rfl, fun j hj => by have := hn j (by omega) hj; simp only [hitB] at this; simp only [this]; rfl⟩
  rw [stepF, this]
theorem stepF_miss {m : Mach} {s : Int} {a : RAct} (hn : ∀ j (hj : j < m.edges.length), hitB m s a m.edges[j] = false) : stepF m s a = -1 := by
  have : m.edges.find? (fun e => e.src == s && actEq a (actE m s e)) = none := by
    rw [List.find?_eq_none]
    intro e he
    obtain ⟨j, hj, rfl⟩ := List.getElem_of_mem he
    have := hn j hj
    simp only [hitB] at this
    simp [this]
  rw [stepF, this]
set_option maxRecDepth 100000 in
set_option maxHeartbeats 1000000 in
theorem s_l04step (m : Mach) (s : Int) (a : RAct) (v : Value) (w : World) (hv : MachAt w v m) (h0 : 0 ≤ s) (h1 : s < (m.states.length : Int)) (h80 : m.edges.length ≤ 80) :
    Calls Try.prog 88 #[v, .int .i64 s, a.val] w fun e w' => e = .returned (.int .i64 (stepF m s a)) ∧ Below w.heap.size w w' := by
  obtain ⟨sv, ev, rfl, hs, he⟩ := hv
  have hsl := hs.lenm
  obtain ⟨sa, sc, rfl, hs1, hs2, hs3⟩ := hs
  obtain ⟨ea, ec, rfl, he1, he2, he3⟩ := he
  obtain ⟨bs, os, rfl, hbsB, hsrow⟩ := hs3 (by intro h; rw [h] at h1; simp at h1; omega)
  have hlt0 : s.toNat < m.states.length := by omega
  have hst := hsrow.get s.toNat hlt0
  obtain ⟨x, hx⟩ : ∃ x, x = m.states[s.toNat] := ⟨_, rfl⟩
  have HX : Hid (stAt m s = x) := hide (by rw [stAt, List.getElem?_eq_getElem hlt0, hx]; rfl)
  rw [← hx] at hst
  obtain ⟨c0, c1⟩ := hst
  have HER := hide he3
  clear hx hsrow he3
  unfold RAct.val
  have h3 : ∀ A B, Below w.heap.size w ((w.alloc A).alloc B) := fun A B => balloc2 _ _ _
  go_enter Try.func88, Try.ntmps88
  go_wp2_with fail
  go_loopw [8] (fun i wr => ∃ k : Nat, k ≤ m.edges.length ∧ i = .int .i64 k ∧ (∀ j (hj : j < m.edges.length), j < k → hitB m s a m.edges[j] = false) ∧ Below (w.heap.size + 3) (((w.alloc (.cells #[.slice (some ⟨bs, os, none⟩) m.states.length sc, .slice ea m.edges.length ec, .int .i64 m.start] 45)).alloc (.cells #[.int .i64 a.kind, .string a.peer, .string a.label, .int .i64 a.sort] 58)).alloc (.cells #[.int .i64 x.kind, .string x.peer] 98)) wr) (fun i _ => m.edges.length - (intOf i).toNat)
  case atStart => exact ⟨0, Nat.zero_le _, rfl, fun j _ h => absurd h (by omega), Below.refl _ _⟩
  case round =>
    obtain ⟨k, hk, rfl, hall, hbel⟩ := hrel
    have HA := hide hall
    have HBEL := hide hbel
    have hsz : w.heap.size + 3 ≤ wr.heap.size := by have := hbel.size; simp at this; omega
    have b1 : wr.cell? ⟨w.heap.size, 1, none⟩ = some (.slice ea m.edges.length ec) := (hbel.cell (p := ⟨w.heap.size, 1, none⟩) (by simp)).trans (((c3_0 _ _ _ _).cell (p := ⟨w.heap.size, 1, none⟩) (by simp)).trans (by simp))
    have d0 : wr.cell? ⟨w.heap.size + 1, 0, none⟩ = some (.int .i64 a.kind) := (hbel.cell (p := ⟨w.heap.size + 1, 0, none⟩) (by simp)).trans (((c3_1 _ _ _ _).cell (p := ⟨w.heap.size + 1, 0, none⟩) (by simp)).trans (by simp))
    have d1 : wr.cell? ⟨w.heap.size + 1, 1, none⟩ = some (.string a.peer) := (hbel.cell (p := ⟨w.heap.size + 1, 1, none⟩) (by simp)).trans (((c3_1 _ _ _ _).cell (p := ⟨w.heap.size + 1, 1, none⟩) (by simp)).trans (by simp))
    have d2 : wr.cell? ⟨w.heap.size + 1, 2, none⟩ = some (.string a.label) := (hbel.cell (p := ⟨w.heap.size + 1, 2, none⟩) (by simp)).trans (((c3_1 _ _ _ _).cell (p := ⟨w.heap.size + 1, 2, none⟩) (by simp)).trans (by simp))
    have d3 : wr.cell? ⟨w.heap.size + 1, 3, none⟩ = some (.int .i64 a.sort) := (hbel.cell (p := ⟨w.heap.size + 1, 3, none⟩) (by simp)).trans (((c3_1 _ _ _ _).cell (p := ⟨w.heap.size + 1, 3, none⟩) (by simp)).trans (by simp))
    have g0 : wr.cell? ⟨w.heap.size + 1 + 1, 0, none⟩ = some (.int .i64 x.kind) := (hbel.cell (p := ⟨w.heap.size + 1 + 1, 0, none⟩) (by simp)).trans (c3_2 _ _ _ _ _ _ _ rfl)
    have g1 : wr.cell? ⟨w.heap.size + 1 + 1, 1, none⟩ = some (.string x.peer) := (hbel.cell (p := ⟨w.heap.size + 1 + 1, 1, none⟩) (by simp)).trans (c3_2 _ _ _ _ _ _ _ rfl)
    have HW : Hid (Below w.heap.size w wr) := hide (((balloc2 _ _ _).trans ((malloc1 _ _).mono (by simp; omega))).trans (hbel.mono (by omega)))
    clear hall hbel
    by_cases hlt : k < m.edges.length
    · obtain ⟨b, o, rfl, hbB, hrow⟩ := HER.out (by intro h; simp [h] at hlt)
      have hnode := (hrow.get k hlt).carry hbB HW.out
      obtain ⟨e1, he1'⟩ : ∃ e1, e1 = m.edges[k] := ⟨_, rfl⟩
      rw [← he1'] at hnode
      obtain ⟨f0, f1, f2, f3⟩ := hnode
      obtain ⟨q, hq⟩ : ∃ q, (e1.src == s) = q := ⟨_, rfl⟩
      obtain ⟨r, hr⟩ : ∃ r, actEq a ⟨x.kind, x.peer, e1.label, e1.sort⟩ = r := ⟨_, rfl⟩
      have HH : Hid (hitB m s a m.edges[k] = (q && r)) := hide (by rw [hitB, ← he1', hq, actE, HX.out, hr])
      have HYES : Hid (hitB m s a m.edges[k] = true → stepF m s a = e1.dst) := hide (fun h => by rw [stepF_hit hlt HA.out h, he1'])
      have HNO : Hid (hitB m s a m.edges[k] = false → ∀ j (hj : j < m.edges.length), j < k + 1 → hitB m s a m.edges[j] = false) := hide (fun h j hj hjk => by
        by_cases hjk' : j = k
        · subst hjk'; exact h
        · exact HA.out j hj (by omega))
      have heq : ∀ W, (Op.equalIn 10000 58 (.agg #[.int .i64 a.kind, .string a.peer, .string a.label, .int .i64 a.sort]) (.agg #[.int .i64 x.kind, .string x.peer, .string e1.label, .int .i64 e1.sort])).run Try.prog W = .ok r W := fun W => by rw [act_equal a ⟨x.kind, x.peer, e1.label, e1.sort⟩ W, hr]
      clear he1' hrow hr
      have rd0 := fun A => ((malloc1 wr A).cell (p := ⟨w.heap.size + 1, 0, none⟩) (by show w.heap.size + 1 < wr.heap.size; omega)).trans d0
      have rd1 := fun A => ((malloc1 wr A).cell (p := ⟨w.heap.size + 1, 1, none⟩) (by show w.heap.size + 1 < wr.heap.size; omega)).trans d1
      have rd2 := fun A => ((malloc1 wr A).cell (p := ⟨w.heap.size + 1, 2, none⟩) (by show w.heap.size + 1 < wr.heap.size; omega)).trans d2
      have rd3 := fun A => ((malloc1 wr A).cell (p := ⟨w.heap.size + 1, 3, none⟩) (by show w.heap.size + 1 < wr.heap.size; omega)).trans d3
      have rg0 := fun A => ((malloc1 wr A).cell (p := ⟨w.heap.size + 1 + 1, 0, none⟩) (by show w.heap.size + 1 + 1 < wr.heap.size; omega)).trans g0
      have rg1 := fun A => ((malloc1 wr A).cell (p := ⟨w.heap.size + 1 + 1, 1, none⟩) (by show w.heap.size + 1 + 1 < wr.heap.size; omega)).trans g1
      cases q
      · go_wp2_with fail
        go_roundw
        case rel => exact ⟨k + 1, hlt, by go_num, HNO.out (by rw [HH.out]; rfl), HBEL.out.trans ((malloc1 _ _).mono (by omega))⟩
        case measure => simp [intOf]; omega
      · cases r
        · go_wp2_with fail
          go_roundw
          case rel => exact ⟨k + 1, hlt, by go_num, HNO.out (by rw [HH.out]; rfl), HBEL.out.trans ((malloc1 _ _).mono (by omega))⟩
          case measure => simp [intOf]; omega
        · go_wp2_with fail
          go_ret
          exact ⟨ret_int (HYES.out (by rw [HH.out]; rfl)), HW.out.trans ((malloc1 _ _).mono HW.out.size)⟩
    · go_wp2_with fail
      go_ret
      exact ⟨ret_int (stepF_miss (fun j hj => HA.out j hj (by omega))), HW.out⟩
end Go.Proofs.Ythaomohoiginnaa
