/- ActsOf of the program. -/
import Derived.Test.YthaomohoiginnaaActsS0
import Derived.Test.YthaomohoiginnaaMachP
import Derived.Test.YthaomohoiginnaaShelf
namespace Go.Proofs.Ythaomohoiginnaa
open Go.RowKit
attribute [local go_sem ↓] Go.wp_at_zero Go.wp_at_succ

theorem machine_right_at {q : Bool} {m : Mach} (hq : machB m = q) (v : Value) (w : World) (hf : m.fit) (hv : MachAt w v m) :
    Calls Try.prog 27 #[v] w fun e w' => e = .returned (.bool q) ∧ Below w.heap.size w w' := by subst hq; exact machine_right m v w hf hv
theorem mclone (s : ByteArray) (w : World) (hs : s.size ≤ 1048576) : Calls Try.prog 115 #[.string s] w fun e w' => e = .returned (.string s) ∧ Below w.heap.size w w' := by
  have HS := hide hs
  clear hs
  go_enter Try.func115, Try.ntmps115
  go_wp2_with (go_at_call 165; refine (Try.stringslite_Clone s _ (Nat.le_trans HS.out (by omega))).mono ?_; rintro e w1 ⟨rfl, hb1⟩; have HB1 := hide hb1; clear hb1)
  go_ret
  exact ⟨rfl, HB1.out⟩
set_option maxRecDepth 100000 in
set_option maxHeartbeats 400000 in
theorem act_of (m : Mach) (x : REdge) (v : Value) (w : World) (hv : MachAt w v m) (h0 : 0 ≤ x.src) (h1 : x.src < (m.states.length : Int)) :
    Calls Try.prog 137 #[v, x.val] w fun e w' => e = .returned (actE m x.src x).val ∧ Below w.heap.size w w' := by
  obtain ⟨sv, ev, rfl, hs, he⟩ := hv
  have hsl := hs.lenm
  obtain ⟨sa, sc, rfl, hs1, hs2, hs3⟩ := hs
  obtain ⟨ea, ec, rfl, -⟩ := he
  obtain ⟨bs, os, rfl, hbsB, hsrow⟩ := hs3 (by intro h; rw [h] at h1; simp at h1; omega)
  have hlt0 : x.src.toNat < m.states.length := by omega
  have hst := hsrow.get x.src.toNat hlt0
  obtain ⟨y, hy⟩ : ∃ y, y = m.states[x.src.toNat] := ⟨_, rfl⟩
  have HX : Hid (actE m x.src x = ⟨y.kind, y.peer, x.label, x.sort⟩) := hide (by rw [actE, stAt, List.getElem?_eq_getElem hlt0, hy]; rfl)
  rw [← hy] at hst
  obtain ⟨c0, c1⟩ := hst
  have hi : (Try.prog.info? 58).map (·.size) = some 4 := by
    obtain ⟨i0, hi, _, hz1, _⟩ := info_parts Try.infoAct
    rw [hi]; simp [hz1]
  have HI := hide hi
  clear hi hy hsrow
  unfold REdge.val
  rw [HX.out]
  have h3 : ∀ A B C, Below w.heap.size w (((w.alloc A).alloc B).alloc C) := fun A B C => ((malloc1 _ _).trans ((malloc1 _ _).mono (by simp))).trans ((malloc1 _ _).mono (by simp; omega))
  have H3 := hide h3
  have r0 : ∀ A B C, (((w.alloc A).alloc B).alloc C).cell? ⟨bs, os + x.src.toNat * 2, none⟩ = some (.int .i64 y.kind) := fun A B C => ((h3 A B C).cell (p := ⟨bs, _, none⟩) hbsB).trans c0
  have r1 : ∀ A B C, (((w.alloc A).alloc B).alloc C).cell? ⟨bs, os + x.src.toNat * 2 + 1, none⟩ = some (.string y.peer) := fun A B C => ((h3 A B C).cell (p := ⟨bs, _, none⟩) hbsB).trans c1
  clear h3
  go_enter Try.func137, Try.ntmps137
  go_wp2_with fail
  refine bodyPost_ret_by (results_cell_row rfl _ _ (w.heap.size + 1 + 1) 58 #[.int .i64 y.kind, .string y.peer, .string x.label, .int .i64 x.sort] (0, 0) _ rfl ?_ Try.underlying58 rfl HI.out) rfl ⟨rfl, (H3.out _ _ _).trans ((malloc1 _ _).mono (H3.out _ _ _).size)⟩
  rw [mheap_old _ _ _ (by simp), mheap_new _ _ _ (by simp)]
end Go.Proofs.Ythaomohoiginnaa
