/- The law of StepOf, walked. -/
import Derived.Test.YtcdlceldokhnbaaStepI
import Derived.Test.YtcdlceldokhnbaaOpenMach
import Derived.Test.YtcdlceldokhnbaaOpenActR
import Derived.Deep.RegionWith
import Derived.Deep.DeepCutAuto
namespace Go.Proofs.Ytcdlceldokhnbaa
open Go.RowKit

theorem c2_0 (w : World) (B : Obj) (cs : Array Value) (t : TypeId) (off : Nat) (v : Value) (h : cs[off]? = some v) : ((w.alloc (.cells cs t)).alloc B).cell? ⟨w.heap.size, off, none⟩ = some v := by
  have hk : ((w.alloc (.cells cs t)).alloc B).heap[w.heap.size]? = some (.cells cs t) := by rw [mheap_old _ _ _ (by simp), mheap_new _ _ _ rfl]
  simp only [World.cell?]
  rw [hk]
  simpa using h
theorem c2_1 (w : World) (A : Obj) (cs : Array Value) (t : TypeId) (off : Nat) (v : Value) (h : cs[off]? = some v) : ((w.alloc A).alloc (.cells cs t)).cell? ⟨w.heap.size + 1, off, none⟩ = some v := by
  have hk : ((w.alloc A).alloc (.cells cs t)).heap[w.heap.size + 1]? = some (.cells cs t) := by rw [mheap_new _ _ _ (by simp)]
  simp only [World.cell?]
  rw [hk]
  simpa using h
set_option maxRecDepth 100000 in
set_option maxHeartbeats 4000000 in
theorem law_StepOf (m : Mach) (sa : Option Addr) (sc : Nat) (ea : Option Addr) (ec : Nat) (s : Int) (a : RAct) (w : World) (h : MachArg w sa sc ea ec m) (_hsr : -9223372036854775808 ≤ s ∧ s ≤ 9223372036854775807) (ha : a.ok ∧ a.rng) :
    Calls Try.prog 7 #[machV sa sc ea ec m, .int .i64 s, a.val] w fun e w' => e = .returned (.bool true) ∧ Below w.heap.size w w' := by
  have HC : Hid (∀ w', Below (w.heap.size + 2) ((w.alloc (.cells #[.slice sa m.states.length sc, .slice ea m.edges.length ec, .int .i64 m.start] 37)).alloc (.cells #[.int .i64 a.kind, .string a.peer, .string a.label, .int .i64 a.sort] 60)) w' → (w'.cell? ⟨w.heap.size, 0, none⟩ = some (.slice sa m.states.length sc) ∧ w'.cell? ⟨w.heap.size, 1, none⟩ = some (.slice ea m.edges.length ec) ∧ w'.cell? ⟨w.heap.size, 2, none⟩ = some (.int .i64 m.start)) ∧ (w'.cell? ⟨w.heap.size + 1, 0, none⟩ = some (.int .i64 a.kind) ∧ w'.cell? ⟨w.heap.size + 1, 1, none⟩ = some (.string a.peer) ∧ w'.cell? ⟨w.heap.size + 1, 2, none⟩ = some (.string a.label) ∧ w'.cell? ⟨w.heap.size + 1, 3, none⟩ = some (.int .i64 a.sort)) ∧ Below w.heap.size w w' ∧ w.heap.size + 2 ≤ w'.heap.size) := hide (fun w' hb => ⟨⟨(hb.cell (p := ⟨w.heap.size, 0, none⟩) (by simp)).trans (c2_0 _ _ _ _ _ _ rfl), (hb.cell (p := ⟨w.heap.size, 1, none⟩) (by simp)).trans (c2_0 _ _ _ _ _ _ rfl), (hb.cell (p := ⟨w.heap.size, 2, none⟩) (by simp)).trans (c2_0 _ _ _ _ _ _ rfl)⟩, ⟨(hb.cell (p := ⟨w.heap.size + 1, 0, none⟩) (by simp)).trans (c2_1 _ _ _ _ _ _ rfl), (hb.cell (p := ⟨w.heap.size + 1, 1, none⟩) (by simp)).trans (c2_1 _ _ _ _ _ _ rfl), (hb.cell (p := ⟨w.heap.size + 1, 2, none⟩) (by simp)).trans (c2_1 _ _ _ _ _ _ rfl), (hb.cell (p := ⟨w.heap.size + 1, 3, none⟩) (by simp)).trans (c2_1 _ _ _ _ _ _ rfl)⟩, (balloc2 _ _ _).trans (hb.mono (by omega)), by have := hb.size; simpa using this⟩)
  have H : Hid (∀ w', Below (w.heap.size + 2) ((w.alloc (.cells #[.slice sa m.states.length sc, .slice ea m.edges.length ec, .int .i64 m.start] 37)).alloc (.cells #[.int .i64 a.kind, .string a.peer, .string a.label, .int .i64 a.sort] 60)) w' → MachArg w' sa sc ea ec m) := hide (fun w' hb => h.carry (HC.out w' hb).2.2.1)
  have HL : Hid (∀ (w1 w2 : World), Below (w.heap.size + 2) ((w.alloc (.cells #[.slice sa m.states.length sc, .slice ea m.edges.length ec, .int .i64 m.start] 37)).alloc (.cells #[.int .i64 a.kind, .string a.peer, .string a.label, .int .i64 a.sort] 60)) w1 → Below w1.heap.size w1 w2 → Below (w.heap.size + 2) ((w.alloc (.cells #[.slice sa m.states.length sc, .slice ea m.edges.length ec, .int .i64 m.start] 37)).alloc (.cells #[.int .i64 a.kind, .string a.peer, .string a.label, .int .i64 a.sort] 60)) w2) := hide (fun w1 w2 h1 h2 => h1.trans (h2.mono (by have := h1.size; simpa using this)))
  have HA := hide ha
  clear h ha
  unfold machV RAct.val
  go_enter Try.func7, Try.ntmps7
  go_wp2_with (first
    | (go_at_call 37; refine (sz2_act a r _ HA.out.1 (by omega) hr1).mono ?_; rintro e w1' ⟨r2, rfl, hr2, -, hb1'⟩; have HW1' := hide (HL.out _ _ HW1.out hb1'); obtain ⟨⟨x0', x1', x2'⟩, ⟨y0', y1', y2', y3'⟩, -⟩ := HC.out _ HW1'.out; clear hb1'; by_cases hneg2 : r2 < 0)
    | (go_at_call 21; refine (sz2_machine m 1048576 (by omega) (by omega) sa sc ea ec _ (H.out _ (Below.refl _ _))).mono ?_; rintro e w1 ⟨r, rfl, hr1, hrf, hb1⟩; have HRF := hide hrf; have HW1 := hide (HL.out _ _ (Below.refl _ _) hb1); obtain ⟨⟨x0, x1, x2⟩, ⟨y0, y1, y2, y3⟩, -⟩ := HC.out _ HW1.out; clear hrf hb1; by_cases hneg : r < 0))
  · go_ret
    exact ⟨rfl, (HC.out _ HW1.out).2.2.1⟩
  · go_ret
    exact ⟨rfl, (HC.out _ HW1'.out).2.2.1⟩
  · have HFIT := hide (HRF.out (by omega)).1
    go_cut [8] (fun s8 wx => s8 = .int .i64 (stepR m s a) ∧ Below (w.heap.size + 2) ((w.alloc (.cells #[.slice sa m.states.length sc, .slice ea m.edges.length ec, .int .i64 m.start] 37)).alloc (.cells #[.int .i64 a.kind, .string a.peer, .string a.label, .int .i64 a.sort] 60)) wx)
    case first =>
      go_region_with (first
        | (go_at_call 23; refine (mach_to m sa sc ea ec _ (H.out _ (by first | exact HWA.out | exact HW1'.out.drew)) HFIT.out).mono ?_; rintro e w2 ⟨v2, rfl, hs2, -, hb2⟩; have HS2 := hide hs2; obtain ⟨sv2, ev2, rfl, ⟨sa2, sc2, rfl, -⟩, ⟨ea2, ec2, rfl, -⟩⟩ := hs2; have HW2 : Hid (Below (w.heap.size + 2) ((w.alloc (.cells #[.slice sa m.states.length sc, .slice ea m.edges.length ec, .int .i64 m.start] 37)).alloc (.cells #[.int .i64 a.kind, .string a.peer, .string a.label, .int .i64 a.sort] 60)) w2) := hide (by first | exact HL.out _ _ HWA.out hb2 | exact HL.out _ _ HW1'.out.drew hb2); obtain ⟨⟨u0, u1, u2⟩, ⟨t0, t1, t2, t3⟩, -⟩ := HC.out _ HW2.out; clear hb2)
        | (go_at_call 39; refine (to_act a _).mono ?_; rintro e wa ⟨rfl, hba⟩; have HBA := hide hba; have HWA : Hid (Below (w.heap.size + 2) ((w.alloc (.cells #[.slice sa m.states.length sc, .slice ea m.edges.length ec, .int .i64 m.start] 37)).alloc (.cells #[.int .i64 a.kind, .string a.peer, .string a.label, .int .i64 a.sort] 60)) wa) := hide (by first | exact HL.out _ _ HW2.out hba | exact HL.out _ _ HW1'.out.drew hba); obtain ⟨⟨p0, p1, p2⟩, ⟨q0, q1, q2, q3⟩, -⟩ := HC.out _ HWA.out; unfold RAct.val; clear hba)
        | (go_at_call 38; refine (s_stepOf m s a _ _ HFIT.out (by first | exact HS2.out | exact HS2.out.carry HBA.out)).mono ?_; rintro e w3 ⟨rfl, hb3⟩; have HW3 : Hid (Below (w.heap.size + 2) ((w.alloc (.cells #[.slice sa m.states.length sc, .slice ea m.edges.length ec, .int .i64 m.start] 37)).alloc (.cells #[.int .i64 a.kind, .string a.peer, .string a.label, .int .i64 a.sort] 60)) w3) := hide (by first | exact HL.out _ _ HWA.out hb3 | exact HL.out _ _ HW2.out hb3); obtain ⟨⟨k0, k1, k2⟩, ⟨l0, l1, l2, l3⟩, -, hz3⟩ := HC.out _ HW3.out; clear hb3))
      all_goals (go_wp2_with fail; go_meet; exact ⟨rfl, HW3.out⟩)
    case rest =>
      obtain ⟨rfl, hcw⟩ := hcut
      have HW3 := hide hcw
      obtain ⟨⟨k0, k1, k2⟩, ⟨l0, l1, l2, l3⟩, -, hz3⟩ := HC.out _ HW3.out
      clear hcw
      go_wp2_with (go_at_call 23; refine (mach_to m sa sc ea ec _ (H.out _ HW3.out) HFIT.out).mono ?_; rintro e w4 ⟨v4, rfl, hs4, -, hb4⟩; have HS4 := hide hs4; obtain ⟨sv4, ev4, rfl, ⟨sa4, sc4, rfl, -⟩, ⟨ea4, ec4, rfl, -⟩⟩ := hs4; have HW4 := hide (HL.out _ _ HW3.out hb4); have HW4' := hide (HL.out _ _ HW4.out (malloc1 w4 (.cells #[.slice sa4 m.states.length sc4, .slice ea4 m.edges.length ec4, .int .i64 m.start] 43))); obtain ⟨⟨n0, n1, n2⟩, ⟨o0, o1, o2, o3⟩, -⟩ := HC.out _ HW4'.out; clear hb4)
      go_cut [10] (fun s10 wx => s10 = .int .i64 (stepR m s a) ∧ Below (w.heap.size + 2) ((w.alloc (.cells #[.slice sa m.states.length sc, .slice ea m.edges.length ec, .int .i64 m.start] 37)).alloc (.cells #[.int .i64 a.kind, .string a.peer, .string a.label, .int .i64 a.sort] 60)) wx ∧ Below (w4.heap.size + 1) (w4.alloc (.cells #[.slice sa4 m.states.length sc4, .slice ea4 m.edges.length ec4, .int .i64 m.start] 43)) wx)
      case first =>
        go_region_with (first
          | (go_at_call 39; refine (to_act a _).mono ?_; rintro e w5 ⟨rfl, hb5⟩; have HB5 : Hid (Below (w4.heap.size + 1) (w4.alloc (.cells #[.slice sa4 m.states.length sc4, .slice ea4 m.edges.length ec4, .int .i64 m.start] 43)) w5) := hide ((Below.refl _ _).drew.trans (hb5.mono (by simp))); have HW5 := hide (HL.out _ _ HW4'.out.drew hb5); have z0 := (HB5.out.cell (p := ⟨w4.heap.size, 0, none⟩) (by simp)); have z1 := (HB5.out.cell (p := ⟨w4.heap.size, 1, none⟩) (by simp)); have z2 := (HB5.out.cell (p := ⟨w4.heap.size, 2, none⟩) (by simp)); simp at z0 z1 z2; unfold RAct.val; clear hb5)
          | (go_at_call 40; refine (step_of m s a _ _ HFIT.out HA.out.2 HA.out.1 ((HS4.out.carry (malloc1 _ _)).carry (by have := HB5.out; simpa using this))).mono ?_; rintro e w6 ⟨rfl, hb6⟩; have HB6 : Hid (Below (w4.heap.size + 1) (w4.alloc (.cells #[.slice sa4 m.states.length sc4, .slice ea4 m.edges.length ec4, .int .i64 m.start] 43)) w6) := hide (HB5.out.trans (hb6.mono (by have := HB5.out.size; simpa using this))); have HW6 := hide (HL.out _ _ HW5.out hb6); clear hb6))
        all_goals (go_wp2_with fail; go_meet; exact ⟨rfl, HW6.out, HB6.out⟩)
      case rest =>
        obtain ⟨rfl, hcw6, hcb6⟩ := hcut
        have HW6 := hide hcw6
        have HB6 := hide hcb6
        clear hcw6 hcb6
        obtain ⟨⟨f0, f1, f2⟩, -, -, -⟩ := HC.out _ HW6.out
        have g0 := (HB6.out.cell (p := ⟨w4.heap.size, 0, none⟩) (by simp))
        have g1 := (HB6.out.cell (p := ⟨w4.heap.size, 1, none⟩) (by simp))
        have g2 := (HB6.out.cell (p := ⟨w4.heap.size, 2, none⟩) (by simp))
        simp at g0 g1 g2
        have hl46 : w4.heap.size < wc.heap.size := by have := HB6.out.size; simp at this; omega
        go_wp2_with fail
        go_region_with (first
          | (go_at_call 23; refine (mach_to m sa sc ea ec _ (H.out _ HW6.out.drew) HFIT.out).mono ?_; rintro e w7 ⟨v7, rfl, hs7, -, hb7⟩; have HS7 := hide hs7; obtain ⟨sv7, ev7, rfl, ⟨sa7, sc7, rfl, -⟩, ⟨ea7, ec7, rfl, -⟩⟩ := hs7; have HB7 : Hid (Below wc.heap.size wc w7) := hide ((Below.refl _ _).drew.trans hb7); have i0 := (HB7.out.cell (p := ⟨w4.heap.size, 0, none⟩) hl46).trans g0; have i1 := (HB7.out.cell (p := ⟨w4.heap.size, 1, none⟩) hl46).trans g1; have i2 := (HB7.out.cell (p := ⟨w4.heap.size, 2, none⟩) hl46).trans g2; have HW7 := hide (HL.out _ _ HW6.out HB7.out); clear hb7)
          | (go_at_call 25; refine (eq_machine m _ _ _ (((HS4.out.carry (malloc1 _ _)).carry (by have := HB6.out; simpa using this)).carry HB7.out) HS7.out).mono ?_; rintro e w8 ⟨rfl, hb8⟩; have HW8 := hide (HL.out _ _ HW7.out hb8); clear hb8))
        all_goals
          go_wp2_with fail
          go_ret
          exact ⟨rfl, (HC.out _ HW8.out).2.2.1⟩
end Go.Proofs.Ytcdlceldokhnbaa
