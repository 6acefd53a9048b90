/- The law of EndOf, walked. -/
import Derived.Test.YtcdlceldokhnbaaEndI
import Derived.Test.YtcdlceldokhnbaaOpenMach
import Derived.Deep.RegionWith
namespace Go.Proofs.Ytcdlceldokhnbaa
open Go.RowKit

set_option maxRecDepth 100000 in
set_option maxHeartbeats 2000000 in
theorem law_EndOf (m : Mach) (sa : Option Addr) (sc : Nat) (ea : Option Addr) (ec : Nat) (s : Int) (w : World) (h : MachArg w sa sc ea ec m) (_hsr : -9223372036854775808 ≤ s ∧ s ≤ 9223372036854775807) :
    Calls Try.prog 9 #[machV sa sc ea ec m, .int .i64 s] w fun e w' => e = .returned (.bool true) ∧ Below w.heap.size w w' := by
  have HC : Hid (∀ w', Below (w.heap.size + 1) (w.alloc (.cells #[.slice sa m.states.length sc, .slice ea m.edges.length ec, .int .i64 m.start] 37)) w' → w'.cell? ⟨w.heap.size, 0, none⟩ = some (.slice sa m.states.length sc) ∧ w'.cell? ⟨w.heap.size, 1, none⟩ = some (.slice ea m.edges.length ec) ∧ w'.cell? ⟨w.heap.size, 2, none⟩ = some (.int .i64 m.start) ∧ Below w.heap.size w w' ∧ w.heap.size < w'.heap.size) := hide (fun w' hb => ⟨(hb.cell (p := ⟨w.heap.size, 0, none⟩) (by simp)).trans (by simp), (hb.cell (p := ⟨w.heap.size, 1, none⟩) (by simp)).trans (by simp), (hb.cell (p := ⟨w.heap.size, 2, none⟩) (by simp)).trans (by simp), (malloc1 _ _).trans (hb.mono (by omega)), by have := hb.size; simp at this; omega⟩)
  have H : Hid (∀ w', Below (w.heap.size + 1) (w.alloc (.cells #[.slice sa m.states.length sc, .slice ea m.edges.length ec, .int .i64 m.start] 37)) w' → MachArg w' sa sc ea ec m) := hide (fun w' hb => h.carry (HC.out w' hb).2.2.2.1)
  have HL : Hid (∀ (w1 w2 : World), Below (w.heap.size + 1) (w.alloc (.cells #[.slice sa m.states.length sc, .slice ea m.edges.length ec, .int .i64 m.start] 37)) w1 → Below w1.heap.size w1 w2 → Below (w.heap.size + 1) (w.alloc (.cells #[.slice sa m.states.length sc, .slice ea m.edges.length ec, .int .i64 m.start] 37)) w2) := hide (fun w1 w2 h1 h2 => h1.trans (h2.mono (by have := h1.size; simpa using this)))
  clear h
  unfold machV
  go_enter Try.func9, Try.ntmps9
  go_wp2_with (go_at_call 21; refine (sz_machine m sa sc ea ec _ (H.out _ (Below.refl _ _))).mono ?_; rintro e w1 ⟨r, rfl, hrf, hb1⟩; have HRF := hide hrf; have HW1 := hide (HL.out _ _ (Below.refl _ _) hb1); obtain ⟨x0, x1, x2, -, -⟩ := HC.out _ HW1.out; clear hrf hb1; by_cases hneg : r < 0)
  · go_ret
    exact ⟨rfl, (HC.out _ HW1.out).2.2.2.1⟩
  · have HFIT := hide (HRF.out (by omega))
    go_wp2_with (first
      | (go_at_call 45; refine (s_endOf m s _ _ HFIT.out HS2.out).mono ?_; rintro e w2' ⟨r0, rfl, hr0, hb2'⟩; have HR0 := hide hr0; clear hr0; have HW2' := hide (HL.out _ _ HW2.out hb2'); obtain ⟨z0, z1, z2, -, -⟩ := HC.out _ HW2'.out; clear hb2')
      | (go_at_call 46; refine (end_of HR0.out _ _ HFIT.out (HS3.out.carry (malloc1 _ _))).mono ?_; rintro e w4 ⟨rfl, hb4⟩; have HW4 := hide (HL.out _ _ (HL.out _ _ HW3.out (malloc1 _ _)) hb4); have HB4 := hide hb4; obtain ⟨t0, t1, t2, -, -⟩ := HC.out _ HW4.out; have q0 := (hb4.cell (p := ⟨w3.heap.size, 0, none⟩) (by simp)); have q1 := (hb4.cell (p := ⟨w3.heap.size, 1, none⟩) (by simp)); have q2 := (hb4.cell (p := ⟨w3.heap.size, 2, none⟩) (by simp)); simp at q0 q1 q2; have hl34 : w3.heap.size < w4.heap.size := (by have := hb4.size; simp at this; omega); clear hb4)
      | (go_at_call 23; refine (to_machine m sa sc ea ec _ (H.out _ HW2'.out) HFIT.out).mono ?_; rintro e w3 ⟨v3, rfl, hs3, hb3⟩; have HS3 := hide hs3; obtain ⟨sv3, ev3, rfl, ⟨sa3, sc3, rfl, -⟩, ⟨ea3, ec3, rfl, -⟩⟩ := hs3; have HW3 := hide (HL.out _ _ HW2'.out hb3); obtain ⟨u0, u1, u2, -, hlw3⟩ := HC.out _ HW3.out; clear hb3)
      | (go_at_call 23; refine (to_machine m sa sc ea ec _ (H.out _ HW1.out) HFIT.out).mono ?_; rintro e w2 ⟨v2, rfl, hs2, hb2⟩; have HS2 := hide hs2; obtain ⟨sv2, ev2, rfl, ⟨sa2, sc2, rfl, -⟩, ⟨ea2, ec2, rfl, -⟩⟩ := hs2; have HW2 := hide (HL.out _ _ HW1.out hb2); clear hb2))
    go_region_with (first
      | (go_at_call 23; refine (to_machine m sa sc ea ec _ (H.out _ HW4.out.drew) HFIT.out).mono ?_; rintro e w5 ⟨v5, rfl, hs5, hb5⟩; have HS5 := hide hs5; obtain ⟨sv5, ev5, rfl, ⟨sa5, sc5, rfl, -⟩, ⟨ea5, ec5, rfl, -⟩⟩ := hs5; have HW5 := hide (HL.out _ _ HW4.out.drew hb5); have HB5 : Hid (Below w4.heap.size w4 w5) := hide ((Below.refl _ _).drew.trans hb5); have y0 := (HB5.out.cell (p := ⟨w3.heap.size, 0, none⟩) hl34).trans q0; have y1 := (HB5.out.cell (p := ⟨w3.heap.size, 1, none⟩) hl34).trans q1; have y2 := (HB5.out.cell (p := ⟨w3.heap.size, 2, none⟩) hl34).trans q2; clear hb5)
      | (go_at_call 25; refine (eq_machine m _ _ _ (((HS3.out.carry (malloc1 _ _)).carry HB4.out).carry HB5.out) HS5.out).mono ?_; rintro e w6 ⟨rfl, hb6⟩; have HW6 := hide (HL.out _ _ HW5.out hb6); clear hb6))
    all_goals
      go_wp2_with fail
      go_ret
      exact ⟨rfl, (HC.out _ HW6.out).2.2.2.1⟩
end Go.Proofs.Ytcdlceldokhnbaa
