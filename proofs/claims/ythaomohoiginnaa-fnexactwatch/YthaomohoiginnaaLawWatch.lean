/- The law of Watch, walked. -/
import Derived.Test.YthaomohoiginnaaWatI
import Derived.Test.YthaomohoiginnaaOpenMach
import Derived.Test.YthaomohoiginnaaOpenActR
import Derived.Test.YthaomohoiginnaaOwnRAct
import Derived.Deep.RegionWith
import Derived.Deep.DeepCutAuto
namespace Go.Proofs.Ythaomohoiginnaa
open Go.RowKit

set_option maxRecDepth 100000 in
set_option maxHeartbeats 4000000 in
theorem law_Watch (m : Mach) (sa : Option Addr) (sc : Nat) (ea : Option Addr) (ec : Nat) (l : List RAct) (la : Option Addr) (lc : Nat) (w : World) (h : MachArg w sa sc ea ec m) (hok : ∀ a ∈ l, a.ok ∧ a.rng) (hll : l.length ≤ maxLen) (hlr : l ≠ [] → ∃ b o, la = some ⟨b, o, none⟩ ∧ b < w.heap.size ∧ RActs w b o l) :
    Calls Try.prog 12 #[machV sa sc ea ec m, .slice la l.length lc] w fun e w' => e = .returned (.bool true) ∧ Below w.heap.size w w' := by
  have HC : Hid (∀ w', Below (w.heap.size + 1) (w.alloc (.cells #[.slice sa m.states.length sc, .slice ea m.edges.length ec, .int .i64 m.start] 39)) w' → w'.cell? ⟨w.heap.size, 0, none⟩ = some (.slice sa m.states.length sc) ∧ w'.cell? ⟨w.heap.size, 1, none⟩ = some (.slice ea m.edges.length ec) ∧ w'.cell? ⟨w.heap.size, 2, none⟩ = some (.int .i64 m.start) ∧ Below w.heap.size w w' ∧ w.heap.size + 1 ≤ w'.heap.size) := hide (fun w' hb => ⟨(hb.cell (p := ⟨w.heap.size, 0, none⟩) (by simp)).trans (by simp), (hb.cell (p := ⟨w.heap.size, 1, none⟩) (by simp)).trans (by simp), (hb.cell (p := ⟨w.heap.size, 2, none⟩) (by simp)).trans (by simp), (malloc1 _ _).trans (hb.mono (by omega)), by have := hb.size; simpa using this⟩)
  have H : Hid (∀ w', Below (w.heap.size + 1) (w.alloc (.cells #[.slice sa m.states.length sc, .slice ea m.edges.length ec, .int .i64 m.start] 39)) w' → MachArg w' sa sc ea ec m) := hide (fun w' hb => h.carry (HC.out w' hb).2.2.2.1)
  have HL : Hid (∀ (w1 w2 : World), Below (w.heap.size + 1) (w.alloc (.cells #[.slice sa m.states.length sc, .slice ea m.edges.length ec, .int .i64 m.start] 39)) w1 → Below w1.heap.size w1 w2 → Below (w.heap.size + 1) (w.alloc (.cells #[.slice sa m.states.length sc, .slice ea m.edges.length ec, .int .i64 m.start] 39)) w2) := hide (fun w1 w2 h1 h2 => h1.trans (h2.mono (by have := h1.size; simpa using this)))
  have HLR : Hid (∀ w', Below (w.heap.size + 1) (w.alloc (.cells #[.slice sa m.states.length sc, .slice ea m.edges.length ec, .int .i64 m.start] 39)) w' → l ≠ [] → ∃ b o, la = some ⟨b, o, none⟩ ∧ b < w'.heap.size ∧ RActs w' b o l) := hide (fun w' hb hne => by
    obtain ⟨b, o, e, hlt, hr⟩ := hlr hne
    have := (HC.out w' hb).2.2.2.1
    exact ⟨b, o, e, Nat.lt_of_lt_of_le hlt this.size, hr.carry hlt this⟩)
  have HOK := hide (fun a ha => (hok a ha).1)
  have HAR := hide (fun a ha => (And.intro (hok a ha).2 (hok a ha).1))
  have HLL := hide hll
  have hl2 : l.length ≤ 9223372036854775807 := by unfold maxLen at hll; omega
  clear h hok hlr hll
  unfold machV
  go_enter Try.func12, Try.ntmps12
  go_wp2_with (first
    | (go_at_call 38; refine (sz2_acts l r la lc _ HOK.out HLL.out (by omega) hr1 (HLR.out _ HW1.out)).mono ?_; rintro e w1' ⟨r2, rfl, hr2, hrf2, hb1'⟩; have HRF2 := hide hrf2; have HW1' := hide (HL.out _ _ HW1.out hb1'); obtain ⟨x0', x1', x2', -⟩ := HC.out _ HW1'.out; clear hb1' hrf2; by_cases hneg2 : r2 < 0)
    | (go_at_call 24; refine (sz2_machine m 1048576 (by omega) (by omega) sa sc ea ec _ (H.out _ (Below.refl _ _))).mono ?_; rintro e w1 ⟨r, rfl, hr1, hrf, hb1⟩; have HRF := hide hrf; have HW1 := hide (HL.out _ _ (Below.refl _ _) hb1); obtain ⟨x0, x1, x2, -⟩ := HC.out _ HW1.out; clear hrf hb1; by_cases hneg : r < 0))
  · go_ret
    exact ⟨rfl, (HC.out _ HW1.out).2.2.2.1⟩
  · go_ret
    exact ⟨rfl, (HC.out _ HW1'.out).2.2.2.1⟩
  · have HFIT := hide (HRF.out (by omega)).1
    have hll : l.length ≤ 1048576 := by have := (HRF2.out (by omega)).1; omega
    go_wp2_with (first
      | (go_at_call 52; refine (watch_i m l _ _ _ HFIT.out HAR.out ((HS5.out.carry (malloc1 _ _)).carry HB6.out) HS6.out).mono ?_; rintro e w7 ⟨rfl, hb7⟩; have HW7 := hide (HL.out _ _ HW6.out hb7); have HB7 := hide hb7; have hl57 : w5.heap.size < w7.heap.size := (by have := hb7.size; omega); have g0 := (hb7.cell (p := ⟨w5.heap.size, 0, none⟩) hl56).trans z0; have g1 := (hb7.cell (p := ⟨w5.heap.size, 1, none⟩) hl56).trans z1; have g2 := (hb7.cell (p := ⟨w5.heap.size, 2, none⟩) hl56).trans z2; obtain ⟨f0, f1, f2, -⟩ := HC.out _ HW7.out; clear hb7)
      | (go_at_call 40; refine (acts_to l la lc _ hll (HLR.out _ (HL.out _ _ HW5.out (malloc1 _ _)))).mono ?_; rintro e w6 ⟨v6, rfl, hs6, -, hb6⟩; have HS6 := hide hs6; obtain ⟨p6, c6, rfl⟩ := hs6.shape; have HB6 := hide hb6; have HW6 := hide (HL.out _ _ (HL.out _ _ HW5.out (malloc1 _ _)) hb6); have hl56 : w5.heap.size < w6.heap.size := (by have := hb6.size; simp at this; omega); have z0 := (hb6.cell (p := ⟨w5.heap.size, 0, none⟩) (by simp)); have z1 := (hb6.cell (p := ⟨w5.heap.size, 1, none⟩) (by simp)); have z2 := (hb6.cell (p := ⟨w5.heap.size, 2, none⟩) (by simp)); simp at z0 z1 z2; clear hb6)
      | (go_at_call 26; refine (mach_to m sa sc ea ec _ (H.out _ HW4.out) HFIT.out).mono ?_; rintro e w5 ⟨v5, rfl, hs5, -, hb5⟩; have HS5 := hide hs5; obtain ⟨sv5, ev5, rfl, ⟨sa5, sc5, rfl, -⟩, ⟨ea5, ec5, rfl, -⟩⟩ := hs5; have HW5 := hide (HL.out _ _ HW4.out hb5); clear hb5)
      | (go_at_call 51; refine (watch_s m l _ _ _ HFIT.out (HS2.out.carry HB3.out) HS3.out).mono ?_; rintro e w4 ⟨rfl, hb4⟩; have HW4 := hide (HL.out _ _ HW3.out hb4); obtain ⟨k0, k1, k2, -⟩ := HC.out _ HW4.out; clear hb4)
      | (go_at_call 40; refine (acts_to l la lc _ hll (HLR.out _ HW2.out)).mono ?_; rintro e w3 ⟨v3, rfl, hs3, -, hb3⟩; have HS3 := hide hs3; obtain ⟨p3, c3, rfl⟩ := hs3.shape; have HB3 := hide hb3; have HW3 := hide (HL.out _ _ HW2.out hb3); clear hb3)
      | (go_at_call 26; refine (mach_to m sa sc ea ec _ (H.out _ HW1'.out) HFIT.out).mono ?_; rintro e w2 ⟨v2, rfl, hs2, -, hb2⟩; have HS2 := hide hs2; obtain ⟨sv2, ev2, rfl, ⟨sa2, sc2, rfl, -⟩, ⟨ea2, ec2, rfl, -⟩⟩ := hs2; have HW2 := hide (HL.out _ _ HW1'.out hb2); clear hb2))
    go_region_with (first
      | (go_at_call 26; refine (mach_to m sa sc ea ec _ (H.out _ HW7.out.drew) HFIT.out).mono ?_; rintro e w8 ⟨v8, rfl, hs8, -, hb8⟩; have HS8 := hide hs8; obtain ⟨sv8, ev8, rfl, ⟨sa8, sc8, rfl, -⟩, ⟨ea8, ec8, rfl, -⟩⟩ := hs8; have HB8 : Hid (Below w7.heap.size w7 w8) := hide ((Below.refl _ _).drew.trans hb8); have i0 := (HB8.out.cell (p := ⟨w5.heap.size, 0, none⟩) hl57).trans g0; have i1 := (HB8.out.cell (p := ⟨w5.heap.size, 1, none⟩) hl57).trans g1; have i2 := (HB8.out.cell (p := ⟨w5.heap.size, 2, none⟩) hl57).trans g2; have HW8 := hide (HL.out _ _ HW7.out HB8.out); clear hb8)
      | (go_at_call 28; refine (eq_machine m _ _ _ ((((HS5.out.carry (malloc1 _ _)).carry HB6.out).carry HB7.out).carry HB8.out) HS8.out).mono ?_; rintro e w9 ⟨rfl, hb9⟩; have HW9 := hide (HL.out _ _ HW8.out hb9); have HB9 : Hid (Below w6.heap.size w6 w9) := hide ((HB7.out.trans (HB8.out.mono HB7.out.size)).trans (hb9.mono (Nat.le_trans HB7.out.size HB8.out.size))); clear hb9))
    all_goals
      go_wp2_with (first
        | (go_at_call 42; refine (eq_acts l _ _ _ ((HS6.out.carry (HB9.out.trans (HB10.out.mono HB9.out.size))).up (HB9.out.trans (HB10.out.mono HB9.out.size)).size) HS10.out).mono ?_; rintro e w11 ⟨rfl, hb11⟩; have HW11 := hide (HL.out _ _ HW10.out hb11); clear hb11)
        | (go_at_call 40; refine (acts_to l la lc _ hll (HLR.out _ HW9.out)).mono ?_; rintro e w10 ⟨v10, rfl, hs10, -, hb10⟩; have HS10 := hide hs10; have HB10 := hide hb10; have HW10 := hide (HL.out _ _ HW9.out hb10); clear hb10 hs10))
      go_ret
      exact ⟨rfl, (HC.out _ HW11.out).2.2.2.1⟩
end Go.Proofs.Ythaomohoiginnaa
