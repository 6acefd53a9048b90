/- The draws: the source, an edge, what Seal and CrcMore are asked. -/
import Derived.Test.YtpnaigmaeabadaaRows
import Derived.Test.YtpnaigmaeabadaaDraw
import Derived.Test.YtpnaigmaeabadaaSeal
namespace Go.Proofs.Ytpnaigmaeabadaa
open Go.RowKit

/-- Bytes that came in. -/
def ArgRow (w : World) (ao : Option Addr) (len : Nat) : Prop := ∀ i, i < len → ∃ b off z, ao = some ⟨b, off, none⟩ ∧ w.cell? ⟨b, off + i, none⟩ = some (.int .u8 z) ∧ 0 ≤ z ∧ z < 256
theorem ArgRow.below {w w' : World} {ao : Option Addr} {len : Nat} (h : ArgRow w ao len) (hb : Below w.heap.size w w') : ArgRow w' ao len := fun i hi => by
  obtain ⟨b, off, z, e, hc, hz⟩ := h i hi
  exact ⟨b, off, z, e, (hb.cell (p := ⟨b, off + i, none⟩) (World.block_lt_of_cell? w _ hc)).trans hc, hz⟩

theorem Src.mixed {w w' : World} {sb : Nat} {ao : Option Addr} {len cap m : Nat} (h : Src w sb ao len cap) (ht : Turned w w' sb 2 (.int .u64 (m : Int))) (hm : U64 m) : Src w' sb ao len cap := by
  obtain ⟨p, hp, c1⟩ := h.c1
  obtain ⟨k, hk, c3⟩ := h.c3
  refine ⟨(ht.other 0 (by omega)).trans h.c0, ⟨p, hp, (ht.other 1 (by omega)).trans c1⟩, ⟨m, hm, ht.same⟩, ⟨k, hk, (ht.other 3 (by omega)).trans c3⟩, fun j => (ht.mark j).trans (h.fr j), fun i hi => ?_⟩
  obtain ⟨b, off, z, e, hb, hc, hz⟩ := h.row i hi
  exact ⟨b, off, z, e, hb, ht.grown.cell hc (by simp; omega), hz⟩
theorem Src.sized {w w' : World} {sb : Nat} {ao : Option Addr} {len cap k : Nat} (h : Src w sb ao len cap) (ht : Turned w w' sb 3 (.int .i64 (k : Int))) (hk : k ≤ 12) : Src w' sb ao len cap := by
  obtain ⟨p, hp, c1⟩ := h.c1
  obtain ⟨m, hm, c2⟩ := h.c2
  refine ⟨(ht.other 0 (by omega)).trans h.c0, ⟨p, hp, (ht.other 1 (by omega)).trans c1⟩, ⟨m, hm, (ht.other 2 (by omega)).trans c2⟩, ⟨k, hk, ht.same⟩, fun j => (ht.mark j).trans (h.fr j), fun i hi => ?_⟩
  obtain ⟨b, off, z, e, hb, hc, hz⟩ := h.row i hi
  exact ⟨b, off, z, e, hb, ht.grown.cell hc (by simp; omega), hz⟩
theorem wrap64_nat (x : Int) : ∃ m : Nat, U64 m ∧ IntKind.u64.wrap x = (m : Int) := by
  rw [IntKind.wrap_u64]
  exact ⟨(x % 18446744073709551616).toNat, by unfold U64; omega, by omega⟩
theorem sized_big {w w1 w2 : World} {sb : Nat} {ao : Option Addr} {len cap : Nat} {v : Value} (h : Src w sb ao len cap) (h1 : Turned w w1 sb 3 v) (h2 : Turned w1 w2 sb 3 (.int .i64 12)) : Src w2 sb ao len cap :=
  h.sized (k := 12) ⟨h2.same, fun j hj => (h2.other j hj).trans (h1.other j hj), fun j => (h2.mark j).trans (h1.mark j), grown_trans h1.grown h2.grown⟩ (by omega)

set_option maxRecDepth 100000 in
set_option maxHeartbeats 4000000 in
theorem source_any (ao : Option Addr) (len cap : Nat) (w : World) (hl : len ≤ 1048576) (hr : ArgRow w ao len) :
    Calls Try.prog 29 #[.slice ao len cap] w fun e w' => e = .returned (.pointer (some ⟨w.heap.size, 0, none⟩)) ∧ Src w' w.heap.size ao len cap ∧ Below w.heap.size w w' := by
  have HR := hide hr
  clear hr
  go_enter Try.func29, Try.ntmps29
  go_wp2
  go_loopw [4] (fun i wr => ∃ k : Nat, k ≤ len ∧ k ≤ 64 ∧ i = .int .i64 k ∧ Src wr w.heap.size ao len cap ∧ Below w.heap.size w wr) (fun i _ => 64 - (intOf i).toNat)
  case atStart =>
    refine ⟨0, by omega, by omega, rfl, ⟨by simp, ⟨0, by omega, by simp⟩, ⟨88172645463325252, by unfold U64; omega, by simp⟩, ⟨0, by omega, by simp⟩, fun j => by simp [World.frozen?_alloc_at], fun i hi => ?_⟩, (Below.refl _ _).alloc (Nat.le_refl _) _⟩
    obtain ⟨b, off, z, e, hc, hz⟩ := HR.out i hi
    have hbl := World.block_lt_of_cell? w _ hc
    exact ⟨b, off, z, e, hbl, (World.cell?_alloc_lt w _ ⟨b, off + i, none⟩ hbl).trans hc, hz⟩
  case round =>
    obtain ⟨k, hk, hk64, rfl, hs, hbel⟩ := hrel
    have HSrc := hide hs
    obtain ⟨c0, ⟨p, hp, c1⟩, ⟨mix, hmix, c2⟩, ⟨q, hq, c3⟩, fr, row⟩ := hs
    have HROW := hide row
    have HB := hide hbel
    clear row hbel
    by_cases hlt : k < len ∧ k < 64
    · obtain ⟨h1, h2⟩ := hlt
      obtain ⟨b, off, z, rfl, hbs, cz, hz0, hz1⟩ := HROW.out k h1
      go_wp2
      go_region
      go_wp2
      go_roundw
      case rel =>
        obtain ⟨m, hu, e⟩ := wrap64_nat (bits .xor .u64 (mix : Int) z * 1099511628211)
        rw [e]
        have hT := (turned wr w.heap.size 2 (.int .u64 (m : Int)) _ c2).drew
        exact ⟨k + 1, by omega, by omega, by go_num, HSrc.out.mixed hT hu, (HB.out.setCell (Nat.le_refl _) _).drew⟩
      case measure => simp [intOf]; omega
    · have hcase : (¬ k < len) ∨ (k < len ∧ ¬ k < 64) := by omega
      clear hlt
      have hT1 := turned wr w.heap.size 3 (.int .i64 ((len : Int) / 20)) _ c3
      have HT1 := hide hT1
      by_cases h12 : 12 < (len : Int) / 20
      · rcases hcase with h1 | ⟨h1, h2⟩
        · exact absurd h12 (by omega)
        · have HT2 := hide (turned (wr.setCell ⟨w.heap.size, 3, none⟩ (.int .i64 ((len : Int) / 20))) w.heap.size 3 (.int .i64 12) _ hT1.same)
          clear hT1
          go_wp2
          go_ret
          exact ⟨rfl, sized_big HSrc.out HT1.out HT2.out, (HB.out.setCell (Nat.le_refl _) _).setCell (Nat.le_refl _) _⟩
      · rcases hcase with h1 | ⟨h1, h2⟩
        all_goals
          clear hT1
          go_wp2
          go_ret
          exact ⟨rfl, HSrc.out.sized (k := len / 20) (by rw [show ((len / 20 : Nat) : Int) = (len : Int) / 20 from by omega]; exact HT1.out) (by omega), HB.out.setCell (Nat.le_refl _) _⟩

set_option maxRecDepth 100000 in
set_option maxHeartbeats 2000000 in
theorem edge_any (sb : Nat) (ao : Option Addr) (len cap : Nat) (w : World) (hl : len ≤ 1048576) (h : Src w sb ao len cap) :
    Calls Try.prog 37 #[.pointer (some ⟨sb, 0, none⟩)] w fun e w' => ∃ r : Int, e = .returned (.int .i64 r) ∧ -9223372036854775808 ≤ r ∧ r ≤ 9223372036854775807 ∧ Src w' sb ao len cap ∧ w.grownBy w' (some sb) := by
  have HN : Hid (∀ w, Src w sb ao len cap → Calls Try.prog 31 #[.pointer (some ⟨sb, 0, none⟩), .int .i64 14] w fun e w' => ∃ r : Int, e = .returned (.int .i64 r) ∧ 0 ≤ r ∧ r < 14 ∧ Src w' sb ao len cap ∧ w.grownBy w' (some sb)) := fun w h => n_any sb ao len cap 14 w (by omega) (by omega) hl h
  have HH := hide h
  clear h hl
  go_enter Try.func37, Try.ntmps37
  go_wp2_with fail
  refine (HN.out _ (HH.out.kept (grown_alloc w _ none) (fun k h => by cases h))).mono ?_
  rintro e w1 ⟨r, rfl, r0, r1, hs1, hg1⟩
  obtain ⟨j, rfl⟩ := Int.eq_ofNat_of_zero_le r0
  have hlt := HH.out.lt
  have key := fun v h => hg1.cell (a := ⟨w.heap.size, j, none⟩) (v := v) ((World.cell?_alloc_at _ _ _ _ rfl).trans h) (by simp; omega)
  obtain ⟨v, hv, v0, v1⟩ : ∃ v : Int, w1.cell? ⟨w.heap.size, j, none⟩ = some (.int .i64 v) ∧ -9223372036854775808 ≤ v ∧ v ≤ 9223372036854775807 := by
    have hj : j = 0 ∨ j = 1 ∨ j = 2 ∨ j = 3 ∨ j = 4 ∨ j = 5 ∨ j = 6 ∨ j = 7 ∨ j = 8 ∨ j = 9 ∨ j = 10 ∨ j = 11 ∨ j = 12 ∨ j = 13 := by omega
    rcases hj with rfl | rfl | rfl | rfl | rfl | rfl | rfl | rfl | rfl | rfl | rfl | rfl | rfl | rfl <;> exact ⟨_, key _ rfl, by omega, by omega⟩
  have H1 := hide (And.intro hs1 (And.intro (grown_trans (grown_alloc w _ (some sb)) hg1) (And.intro v0 v1)))
  clear hs1 hg1 v0 v1 key
  go_wp2
  go_ret
  exact ⟨v, rfl, H1.out.2.2.1, H1.out.2.2.2, H1.out.1, H1.out.2.1⟩

theorem conv_zeros (w : World) (T : Nat) :
    (convert 22 9 (.slice (some ⟨w.heap.size, 0, none⟩) T T)).run Try.prog (w.alloc (.cells (madeCells #[.int .u8 0] T) 5)) = .ok (.string ⟨(List.replicate T (0 : UInt8)).toArray⟩) (w.alloc (.cells (madeCells #[.int .u8 0] T) 5)) := by
  have := conv_new w (madeCells #[.int .u8 0] T) 5 (List.replicate T (0 : UInt8)) T (fun j hj => by
    have hj' : j < T := by simpa using hj
    rw [← Array.getElem?_toList, toList_madeCells_one]
    simp [hj'])
  simpa using this

set_option maxRecDepth 100000 in
set_option maxHeartbeats 2000000 in
theorem draw_seal (ao : Option Addr) (len cap : Nat) (w : World) (hl : len ≤ 1048576) (hr : ArgRow w ao len) :
    Calls Try.prog 11 #[.slice ao len cap] w fun e w' => ∃ t : ByteArray, e = .returned (.string t) ∧ t.size ≤ 20000 ∧ Below w.heap.size w w' := by
  have HL := hide hl
  have HS : Hid (∀ w, ArgRow w ao len → Calls Try.prog 29 #[.slice ao len cap] w fun e w' => e = .returned (.pointer (some ⟨w.heap.size, 0, none⟩)) ∧ Src w' w.heap.size ao len cap ∧ Below w.heap.size w w') := fun w hr => source_any ao len cap w hl hr
  have HR := hide hr
  clear hr hl
  go_enter Try.func11, Try.ntmps11
  go_wp2_with fail
  refine (HS.out _ HR.out).mono ?_
  rintro e w1 ⟨rfl, hs1, hb1⟩
  have H1 := hide (And.intro hs1 hb1)
  clear hs1 hb1
  go_wp2_with fail
  refine (n_one w.heap.size ao len cap 30 _ (by omega) (by omega) HL.out H1.out.1).mono ?_
  rintro e w2 ⟨b, rfl, hs2, hg2⟩
  have hb2 : Below w.heap.size w w2 := H1.out.2.grown hg2 H1.out.2.size (fun k hk => by have := Option.some.inj hk; omega)
  have H2 := hide (And.intro hs2 hb2)
  clear hs2 hg2 hb2
  cases b
  · go_wp2_with fail
    refine (n_any w.heap.size ao len cap 20 _ (by omega) (by omega) HL.out H2.out.1).mono ?_
    rintro e w3 ⟨r, rfl, r0, r1, hs3, hg3⟩
    obtain ⟨j, rfl⟩ := Int.eq_ofNat_of_zero_le r0
    have H3 := hide (And.intro hs3 (H2.out.2.grown hg3 H2.out.2.size (fun k hk => by have := Option.some.inj hk; omega)))
    clear hs3 hg3
    go_wp2_with fail
    refine (bytes_any w.heap.size ao len cap j _ (by omega) HL.out H3.out.1).mono ?_
    rintro e w4 ⟨l, hll, rfl, hs4, hg4⟩
    have H4 := hide (And.intro hll (H3.out.2.grown hg4 H3.out.2.size (fun k hk => by have := Option.some.inj hk; omega)))
    clear hll hs4 hg4
    go_wp2
    go_ret
    exact ⟨_, rfl, by show l.length ≤ 20000; have := H4.out.1; omega, H4.out.2⟩
  · go_wp2_with fail
    refine (n_any w.heap.size ao len cap 3 _ (by omega) (by omega) HL.out H2.out.1).mono ?_
    rintro e w3 ⟨r, rfl, r0, r1, hs3, hg3⟩
    obtain ⟨j, rfl⟩ := Int.eq_ofNat_of_zero_le r0
    have H3 := hide (And.intro hs3 (H2.out.2.grown hg3 H2.out.2.size (fun k hk => by have := Option.some.inj hk; omega)))
    clear hs3 hg3
    have hmk := make_run w3 (19995 + j) (by omega)
    have hcv := conv_zeros w3 (19995 + j)
    rw [show ((19995 + j : Nat) : Int) = 19995 + (j : Int) from by omega] at hmk
    go_wp2
    go_ret
    exact ⟨_, rfl, by show (List.replicate (19995 + j) (0 : UInt8)).toArray.size ≤ 20000; simp; omega, H3.out.2.alloc H3.out.2.size _⟩

set_option maxRecDepth 100000 in
set_option maxHeartbeats 2000000 in
theorem draw_more (ao : Option Addr) (len cap : Nat) (w : World) (hl : len ≤ 1048576) (hr : ArgRow w ao len) :
    Calls Try.prog 16 #[.slice ao len cap] w fun e w' => ∃ (c : Int) (t : ByteArray), e = .returned (.tuple #[.int .i64 c, .string t]) ∧ t.size ≤ 20 ∧ Below w.heap.size w w' := by
  have HL := hide hl
  have HS : Hid (∀ w, ArgRow w ao len → Calls Try.prog 29 #[.slice ao len cap] w fun e w' => e = .returned (.pointer (some ⟨w.heap.size, 0, none⟩)) ∧ Src w' w.heap.size ao len cap ∧ Below w.heap.size w w') := fun w hr => source_any ao len cap w hl hr
  have HR := hide hr
  clear hr hl
  go_enter Try.func16, Try.ntmps16
  go_wp2_with fail
  refine (HS.out _ HR.out).mono ?_
  rintro e w1 ⟨rfl, hs1, hb1⟩
  have H1 := hide (And.intro hs1 hb1)
  clear hs1 hb1
  go_wp2_with fail
  refine (n_any w.heap.size ao len cap 9 _ (by omega) (by omega) HL.out H1.out.1).mono ?_
  rintro e w3 ⟨r, rfl, r0, r1, hs3, hg3⟩
  obtain ⟨j, rfl⟩ := Int.eq_ofNat_of_zero_le r0
  have H3 := hide (And.intro hs3 (H1.out.2.grown hg3 H1.out.2.size (fun k hk => by have := Option.some.inj hk; omega)))
  clear hs3 hg3
  go_wp2_with fail
  refine (bytes_any w.heap.size ao len cap j _ (by omega) HL.out H3.out.1).mono ?_
  rintro e w4 ⟨l, hll, rfl, hs4, hg4⟩
  have H4 := hide (And.intro hs4 (And.intro hll (H3.out.2.grown hg4 H3.out.2.size (fun k hk => by have := Option.some.inj hk; omega))))
  clear hll hs4 hg4
  go_wp2_with fail
  refine (n_one w.heap.size ao len cap 5 _ (by omega) (by omega) HL.out H4.out.1).mono ?_
  rintro e w5 ⟨b, rfl, hs5, hg5⟩
  have H5 := hide (And.intro hs5 (H4.out.2.2.grown hg5 H4.out.2.2.size (fun k hk => by have := Option.some.inj hk; omega)))
  clear hs5 hg5
  cases b
  · go_wp2_with fail
    refine (n_any w.heap.size ao len cap 9 _ (by omega) (by omega) HL.out H5.out.1).mono ?_
    rintro e w6 ⟨r6, rfl, q0, q1, hs6, hg6⟩
    obtain ⟨j6, rfl⟩ := Int.eq_ofNat_of_zero_le q0
    have H6 := hide (And.intro hs6 (H5.out.2.grown hg6 H5.out.2.size (fun k hk => by have := Option.some.inj hk; omega)))
    clear hs6 hg6
    go_wp2_with fail
    refine (bytes_any w.heap.size ao len cap j6 _ (by omega) HL.out H6.out.1).mono ?_
    rintro e w7 ⟨l7, hl7, rfl, hs7, hg7⟩
    have H7 := hide (And.intro hl7 (H6.out.2.grown hg7 H6.out.2.size (fun k hk => by have := Option.some.inj hk; omega)))
    clear hl7 hs7 hg7
    go_wp2_with fail
    refine (spec_crc_any ⟨l7.toArray⟩ _ (by show l7.toArray.size ≤ maxLen; have := H7.out.1; unfold maxLen; simp; omega)).mono ?_
    rintro e w8 ⟨rfl, hw8⟩
    subst hw8
    go_wp2
    go_ret2
    exact ⟨_, _, rfl, by show l.length ≤ 20; have := H4.out.2.1; omega, H7.out.2⟩
  · go_wp2_with fail
    refine (edge_any w.heap.size ao len cap _ HL.out H5.out.1).mono ?_
    rintro e w6 ⟨r6, rfl, q0, q1, hs6, hg6⟩
    have H6 := hide (H5.out.2.grown hg6 H5.out.2.size (fun k hk => by have := Option.some.inj hk; omega))
    clear hs6 hg6 q0 q1
    go_wp2
    go_ret2
    exact ⟨_, _, rfl, by show l.length ≤ 20; have := H4.out.2.1; omega, H6.out⟩

end Go.Proofs.Ytpnaigmaeabadaa
