/- ActsOf of the program. -/
import Derived.Test.YtcdlceldokhnbaaActsS
import Derived.Test.YtcdlceldokhnbaaMachP
import Derived.Test.YtcdlceldokhnbaaShelf
namespace Go.Proofs.Ytcdlceldokhnbaa
open Go.RowKit
attribute [local go_sem ↓] Go.wp_at_zero Go.wp_at_succ

theorem machine_right_at {q : Bool} {m : Mach} (hq : machB m = q) (v : Value) (w : World) (hf : m.fit) (hv : MachAt w v m) :
    Calls Try.prog 24 #[v] w fun e w' => e = .returned (.bool q) ∧ Below w.heap.size w w' := by subst hq; exact machine_right m v w hf hv
theorem mclone (s : ByteArray) (w : World) (hs : s.size ≤ 1048576) : Calls Try.prog 117 #[.string s] w fun e w' => e = .returned (.string s) ∧ Below w.heap.size w w' := by
  have HS := hide hs
  clear hs
  go_enter Try.func117, Try.ntmps117
  go_wp2_with (go_at_call 155; refine (Try.stringslite_Clone s _ (Nat.le_trans HS.out (by omega))).mono ?_; rintro e w1 ⟨rfl, hb1⟩; have HB1 := hide hb1; clear hb1)
  go_ret
  exact ⟨rfl, HB1.out⟩
set_option maxRecDepth 100000 in
set_option maxHeartbeats 400000 in
theorem act_of (m : Mach) (x : REdge) (v : Value) (w : World) (hv : MachAt w v m) (h0 : 0 ≤ x.src) (h1 : x.src < (m.states.length : Int)) :
    Calls Try.prog 87 #[v, x.val] w fun e w' => e = .returned (actE m x.src x).val ∧ Below w.heap.size w w' := by
  obtain ⟨sv, ev, rfl, hs, he⟩ := hv
  have hsl := hs.lenm
  obtain ⟨sa, sc, rfl, hs1, hs2, hs3⟩ := hs
  obtain ⟨ea, ec, rfl, -⟩ := he
  obtain ⟨bs, os, rfl, hbsB, hsrow⟩ := hs3 (by intro h; rw [h] at h1; simp at h1; omega)
  have hlt0 : x.src.toNat < m.states.length := by omega
  have hst := hsrow.get x.src.toNat hlt0
  obtain ⟨y, hy⟩ : ∃ y, y = m.states[x.src.toNat] := ⟨_, rfl⟩
  have HX : Hid (actE m x.src x = ⟨y.kind, y.peer, x.label, x.sort⟩) := hide (by rw [actE, stAt, List.getElem?_eq_getElem hlt0, hy]; rfl)
  rw [← hy] at hst
  obtain ⟨c0, c1⟩ := hst
  have hi : (Try.prog.info? 63).map (·.size) = some 4 := by
    obtain ⟨i0, hi, _, hz1, _⟩ := info_parts Try.infoAct
    rw [hi]; simp [hz1]
  have HI := hide hi
  clear hi hy hsrow
  unfold REdge.val
  rw [HX.out]
  have h3 : ∀ A B C, Below w.heap.size w (((w.alloc A).alloc B).alloc C) := fun A B C => ((malloc1 _ _).trans ((malloc1 _ _).mono (by simp))).trans ((malloc1 _ _).mono (by simp; omega))
  have H3 := hide h3
  have r0 : ∀ A B C, (((w.alloc A).alloc B).alloc C).cell? ⟨bs, os + x.src.toNat * 2, none⟩ = some (.int .i64 y.kind) := fun A B C => ((h3 A B C).cell (p := ⟨bs, _, none⟩) hbsB).trans c0
  have r1 : ∀ A B C, (((w.alloc A).alloc B).alloc C).cell? ⟨bs, os + x.src.toNat * 2 + 1, none⟩ = some (.string y.peer) := fun A B C => ((h3 A B C).cell (p := ⟨bs, _, none⟩) hbsB).trans c1
  clear h3
  go_enter Try.func87, Try.ntmps87
  go_wp2_with fail
  refine bodyPost_ret_by (results_cell_row rfl _ _ (w.heap.size + 1 + 1) 63 #[.int .i64 y.kind, .string y.peer, .string x.label, .int .i64 x.sort] (0, 0) _ rfl ?_ Try.underlying63 rfl HI.out) rfl ⟨rfl, (H3.out _ _ _).trans ((malloc1 _ _).mono (H3.out _ _ _).size)⟩
  rw [mheap_old _ _ _ (by simp), mheap_new _ _ _ (by simp)]
set_option maxRecDepth 100000 in
set_option maxHeartbeats 400000 in
theorem own_act (a : RAct) (w : World) (hf : a.fit) :
    Calls Try.prog 86 #[a.val] w fun e w' => e = .returned a.val ∧ Below w.heap.size w w' := by
  have HF := hide hf
  unfold RAct.val
  have hi : (Try.prog.info? 63).map (·.size) = some 4 := by
    obtain ⟨i0, hi, _, hz1, _⟩ := info_parts Try.infoAct
    rw [hi]; simp [hz1]
  have HI := hide hi
  clear hi hf
  go_enter Try.func86, Try.ntmps86
  go_wp2_with ((go_at_call 117; refine (mclone a.peer _ HF.out.1).mono ?_; rintro e w1 ⟨rfl, hb1⟩; have p0 := (hb1.cell (p := ⟨w.heap.size, 0, none⟩) (by simp; omega)); have p1 := (hb1.cell (p := ⟨w.heap.size, 1, none⟩) (by simp; omega)); have p2 := (hb1.cell (p := ⟨w.heap.size, 2, none⟩) (by simp; omega)); have p3 := (hb1.cell (p := ⟨w.heap.size, 3, none⟩) (by simp; omega)); simp at p0 p1 p2 p3; have q0 := (hb1.cell (p := ⟨w.heap.size + 1, 0, none⟩) (by simp)); have q1 := (hb1.cell (p := ⟨w.heap.size + 1, 1, none⟩) (by simp)); have q2 := (hb1.cell (p := ⟨w.heap.size + 1, 2, none⟩) (by simp)); have q3 := (hb1.cell (p := ⟨w.heap.size + 1, 3, none⟩) (by simp)); simp at q0 q1 q2 q3; have fp0 := (hb1.frozen (p := ⟨w.heap.size, 0, none⟩) (by simp; omega)); have fp1 := (hb1.frozen (p := ⟨w.heap.size, 1, none⟩) (by simp; omega)); have fp2 := (hb1.frozen (p := ⟨w.heap.size, 2, none⟩) (by simp; omega)); have fp3 := (hb1.frozen (p := ⟨w.heap.size, 3, none⟩) (by simp; omega)); simp at fp0 fp1 fp2 fp3; have fq0 := (hb1.frozen (p := ⟨w.heap.size + 1, 0, none⟩) (by simp)); have fq1 := (hb1.frozen (p := ⟨w.heap.size + 1, 1, none⟩) (by simp)); have fq2 := (hb1.frozen (p := ⟨w.heap.size + 1, 2, none⟩) (by simp)); have fq3 := (hb1.frozen (p := ⟨w.heap.size + 1, 3, none⟩) (by simp)); simp at fq0 fq1 fq2 fq3; have hz1 : w.heap.size + 1 < w1.heap.size := (by have := hb1.size; simp at this; omega); have HB1 : Hid (Below w.heap.size w w1) := hide ((balloc2 _ _ _).trans (hb1.mono (by simp; omega))); clear hb1))
  go_wp2_with (go_at_call 117; refine (mclone a.label _ HF.out.2).mono ?_; rintro e w2 ⟨rfl, hb2⟩; have r0 := (hb2.cell (p := ⟨w.heap.size, 0, none⟩) (by simp; omega)).trans ((World.cell?_setCell_other _ _ _ _ (by simp)).trans p0); have r1 := (hb2.cell (p := ⟨w.heap.size, 1, none⟩) (by simp; omega)).trans (World.cell?_setCell_same _ _ _ p1); have r2 := (hb2.cell (p := ⟨w.heap.size, 2, none⟩) (by simp; omega)).trans ((World.cell?_setCell_other _ _ _ _ (by simp)).trans p2); have r3 := (hb2.cell (p := ⟨w.heap.size, 3, none⟩) (by simp; omega)).trans ((World.cell?_setCell_other _ _ _ _ (by simp)).trans p3); have s0 := (hb2.cell (p := ⟨w.heap.size + 1, 0, none⟩) (by simp; omega)).trans ((World.cell?_setCell_other _ _ _ _ (by simp)).trans q0); have s1 := (hb2.cell (p := ⟨w.heap.size + 1, 1, none⟩) (by simp; omega)).trans ((World.cell?_setCell_other _ _ _ _ (by simp)).trans q1); have s2 := (hb2.cell (p := ⟨w.heap.size + 1, 2, none⟩) (by simp; omega)).trans ((World.cell?_setCell_other _ _ _ _ (by simp)).trans q2); have s3 := (hb2.cell (p := ⟨w.heap.size + 1, 3, none⟩) (by simp; omega)).trans ((World.cell?_setCell_other _ _ _ _ (by simp)).trans q3); have gp2 := (hb2.frozen (p := ⟨w.heap.size, 2, none⟩) (by simp; omega)).trans ((World.frozen?_setCell _ _ _ _).trans fp2); have gq0 := (hb2.frozen (p := ⟨w.heap.size + 1, 0, none⟩) (by simp; omega)).trans ((World.frozen?_setCell _ _ _ _).trans fq0); have gq1 := (hb2.frozen (p := ⟨w.heap.size + 1, 1, none⟩) (by simp; omega)).trans ((World.frozen?_setCell _ _ _ _).trans fq1); have gq2 := (hb2.frozen (p := ⟨w.heap.size + 1, 2, none⟩) (by simp; omega)).trans ((World.frozen?_setCell _ _ _ _).trans fq2); have gq3 := (hb2.frozen (p := ⟨w.heap.size + 1, 3, none⟩) (by simp; omega)).trans ((World.frozen?_setCell _ _ _ _).trans fq3); have HB2 : Hid (Below w.heap.size w w2) := hide ((HB1.out.setCell (p := ⟨w.heap.size, 1, none⟩) (Nat.le_refl _) _).trans (hb2.mono (by simp; exact HB1.out.size))); clear hb2 p0 p1 p2 p3 q0 q1 q2 q3 fp0 fp1 fp2 fp3 fq0 fq1 fq2 fq3)
  have hs : ∀ (W : World) (x : Value) (p q : Addr), p ≠ q → (W.setCell p x).cell? q = W.cell? q := fun W x p q hpq => World.cell?_setCell_other _ _ _ _ hpq
  obtain ⟨W, hW⟩ : ∃ W, W = (((((w2.setCell ⟨w.heap.size, 2, none⟩ (.string a.label)).setCell ⟨w.heap.size + 1, 0, none⟩ (.int .i64 a.kind)).setCell ⟨w.heap.size + 1, 1, none⟩ (.string a.peer)).setCell ⟨w.heap.size + 1, 2, none⟩ (.string a.label)).setCell ⟨w.heap.size + 1, 3, none⟩ (.int .i64 a.sort)) := ⟨_, rfl⟩
  have z0 : W.cell? ⟨w.heap.size + 1, 0, none⟩ = some (.int .i64 a.kind) := by
    rw [hW, hs _ _ _ _ (by simp), hs _ _ _ _ (by simp), hs _ _ _ _ (by simp)]
    exact World.cell?_setCell_same _ _ _ (u := .int .i64 0) (by rw [hs _ _ _ _ (by simp)]; exact s0)
  have z1 : W.cell? ⟨w.heap.size + 1, 1, none⟩ = some (.string a.peer) := by
    rw [hW, hs _ _ _ _ (by simp), hs _ _ _ _ (by simp)]
    exact World.cell?_setCell_same _ _ _ (by rw [hs _ _ _ _ (by simp), hs _ _ _ _ (by simp)]; exact s1)
  have z2 : W.cell? ⟨w.heap.size + 1, 2, none⟩ = some (.string a.label) := by
    rw [hW, hs _ _ _ _ (by simp)]
    exact World.cell?_setCell_same _ _ _ (by rw [hs _ _ _ _ (by simp), hs _ _ _ _ (by simp), hs _ _ _ _ (by simp)]; exact s2)
  have z3 : W.cell? ⟨w.heap.size + 1, 3, none⟩ = some (.int .i64 a.sort) := by
    rw [hW]
    exact World.cell?_setCell_same _ _ _ (u := .int .i64 0) (by rw [hs _ _ _ _ (by simp), hs _ _ _ _ (by simp), hs _ _ _ _ (by simp), hs _ _ _ _ (by simp)]; exact s3)
  rw [← hW]
  have hbW : Below w.heap.size w W := by
    rw [hW]
    exact ((((HB2.out.setCell (p := ⟨w.heap.size, 2, none⟩) (Nat.le_refl _) _).setCell (p := ⟨w.heap.size + 1, 0, none⟩) (by simp) _).setCell (p := ⟨w.heap.size + 1, 1, none⟩) (by simp) _).setCell (p := ⟨w.heap.size + 1, 2, none⟩) (by simp) _).setCell (p := ⟨w.heap.size + 1, 3, none⟩) (by simp) _
  refine bodyPost_ret_by (v := .agg #[.int .i64 a.kind, .string a.peer, .string a.label, .int .i64 a.sort]) ?_ rfl ⟨rfl, hbW⟩
  unfold results
  go_simp
end Go.Proofs.Ytcdlceldokhnbaa
