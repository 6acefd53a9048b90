/- The draws: the source, an edge, what Seal and CrcMore are asked. -/
import Derived.Test.YtpnaigmaeabadaaDoorRows
import Derived.Test.YtpnaigmaeabadaaDoorDraw
import Derived.Test.YtpnaigmaeabadaaDoorJoin
namespace Go.Proofs.YtpnaigmaeabadaaDoor
open Go.RowKit

/-- Bytes that came in. -/
def ArgRow (w : World) (ao : Option Addr) (len : Nat) : Prop := ∀ i, i < len → ∃ b off z, ao = some ⟨b, off, none⟩ ∧ w.cell? ⟨b, off + i, none⟩ = some (.int .u8 z) ∧ 0 ≤ z ∧ z < 256
theorem ArgRow.below {w w' : World} {ao : Option Addr} {len : Nat} (h : ArgRow w ao len) (hb : Below w.heap.size w w') : ArgRow w' ao len := fun i hi => by
  obtain ⟨b, off, z, e, hc, hz⟩ := h i hi
  exact ⟨b, off, z, e, (hb.cell (p := ⟨b, off + i, none⟩) (World.block_lt_of_cell? w _ hc)).trans hc, hz⟩

theorem Src.mixed {w w' : World} {sb : Nat} {ao : Option Addr} {len cap m : Nat} (h : Src w sb ao len cap) (ht : Turned w w' sb 2 (.int .u64 (m : Int))) (hm : U64 m) : Src w' sb ao len cap := by
  obtain ⟨p, hp, c1⟩ := h.c1
  obtain ⟨k, hk, c3⟩ := h.c3
  refine ⟨(ht.other 0 (by omega)).trans h.c0, ⟨p, hp, (ht.other 1 (by omega)).trans c1⟩, ⟨m, hm, ht.same⟩, ⟨k, hk, (ht.other 3 (by omega)).trans c3⟩, fun j => (ht.mark j).trans (h.fr j), fun i hi => ?_⟩
  obtain ⟨b, off, z, e, hb, hc, hz⟩ := h.row i hi
  exact ⟨b, off, z, e, hb, ht.grown.cell hc (by simp; omega), hz⟩
theorem Src.sized {w w' : World} {sb : Nat} {ao : Option Addr} {len cap k : Nat} (h : Src w sb ao len cap) (ht : Turned w w' sb 3 (.int .i64 (k : Int))) (hk : k ≤ 12) : Src w' sb ao len cap := by
  obtain ⟨p, hp, c1⟩ := h.c1
  obtain ⟨m, hm, c2⟩ := h.c2
  refine ⟨(ht.other 0 (by omega)).trans h.c0, ⟨p, hp, (ht.other 1 (by omega)).trans c1⟩, ⟨m, hm, (ht.other 2 (by omega)).trans c2⟩, ⟨k, hk, ht.same⟩, fun j => (ht.mark j).trans (h.fr j), fun i hi => ?_⟩
  obtain ⟨b, off, z, e, hb, hc, hz⟩ := h.row i hi
  exact ⟨b, off, z, e, hb, ht.grown.cell hc (by simp; omega), hz⟩
theorem wrap64_nat (x : Int) : ∃ m : Nat, U64 m ∧ IntKind.u64.wrap x = (m : Int) := by
  rw [IntKind.wrap_u64]
  exact ⟨(x % 18446744073709551616).toNat, by unfold U64; omega, by omega⟩
theorem sized_big {w w1 w2 : World} {sb : Nat} {ao : Option Addr} {len cap : Nat} {v : Value} (h : Src w sb ao len cap) (h1 : Turned w w1 sb 3 v) (h2 : Turned w1 w2 sb 3 (.int .i64 12)) : Src w2 sb ao len cap :=
  h.sized (k := 12) ⟨h2.same, fun j hj => (h2.other j hj).trans (h1.other j hj), fun j => (h2.mark j).trans (h1.mark j), grown_trans h1.grown h2.grown⟩ (by omega)

set_option maxRecDepth 100000 in
set_option maxHeartbeats 4000000 in
theorem source_any (ao : Option Addr) (len cap : Nat) (w : World) (hl : len ≤ 1048576) (hr : ArgRow w ao len) :
    Calls Tryd.prog 18 #[.slice ao len cap] w fun e w' => e = .returned (.pointer (some ⟨w.heap.size, 0, none⟩)) ∧ Src w' w.heap.size ao len cap ∧ Below w.heap.size w w' := by
  have HR := hide hr
  clear hr
  go_enter Tryd.func18, Tryd.ntmps18
  go_wp2
  go_loopw [4] (fun i wr => ∃ k : Nat, k ≤ len ∧ k ≤ 64 ∧ i = .int .i64 k ∧ Src wr w.heap.size ao len cap ∧ Below w.heap.size w wr) (fun i _ => 64 - (intOf i).toNat)
  case atStart =>
    refine ⟨0, by omega, by omega, rfl, ⟨by simp, ⟨0, by omega, by simp⟩, ⟨88172645463325252, by unfold U64; omega, by simp⟩, ⟨0, by omega, by simp⟩, fun j => by simp [World.frozen?_alloc_at], fun i hi => ?_⟩, (Below.refl _ _).alloc (Nat.le_refl _) _⟩
    obtain ⟨b, off, z, e, hc, hz⟩ := HR.out i hi
    have hbl := World.block_lt_of_cell? w _ hc
    exact ⟨b, off, z, e, hbl, (World.cell?_alloc_lt w _ ⟨b, off + i, none⟩ hbl).trans hc, hz⟩
  case round =>
    obtain ⟨k, hk, hk64, rfl, hs, hbel⟩ := hrel
    have HSrc := hide hs
    obtain ⟨c0, ⟨p, hp, c1⟩, ⟨mix, hmix, c2⟩, ⟨q, hq, c3⟩, fr, row⟩ := hs
    have HROW := hide row
    have HB := hide hbel
    clear row hbel
    by_cases hlt : k < len ∧ k < 64
    · obtain ⟨h1, h2⟩ := hlt
      obtain ⟨b, off, z, rfl, hbs, cz, hz0, hz1⟩ := HROW.out k h1
      go_wp2
      go_region
      go_wp2
      go_roundw
      case rel =>
        obtain ⟨m, hu, e⟩ := wrap64_nat (bits .xor .u64 (mix : Int) z * 1099511628211)
        rw [e]
        have hT := (turned wr w.heap.size 2 (.int .u64 (m : Int)) _ c2).drew
        exact ⟨k + 1, by omega, by omega, by go_num, HSrc.out.mixed hT hu, (HB.out.setCell (Nat.le_refl _) _).drew⟩
      case measure => simp [intOf]; omega
    · have hcase : (¬ k < len) ∨ (k < len ∧ ¬ k < 64) := by omega
      clear hlt
      have hT1 := turned wr w.heap.size 3 (.int .i64 ((len : Int) / 20)) _ c3
      have HT1 := hide hT1
      by_cases h12 : 12 < (len : Int) / 20
      · rcases hcase with h1 | ⟨h1, h2⟩
        · exact absurd h12 (by omega)
        · have HT2 := hide (turned (wr.setCell ⟨w.heap.size, 3, none⟩ (.int .i64 ((len : Int) / 20))) w.heap.size 3 (.int .i64 12) _ hT1.same)
          clear hT1
          go_wp2
          go_ret
          exact ⟨rfl, sized_big HSrc.out HT1.out HT2.out, (HB.out.setCell (Nat.le_refl _) _).setCell (Nat.le_refl _) _⟩
      · rcases hcase with h1 | ⟨h1, h2⟩
        all_goals
          clear hT1
          go_wp2
          go_ret
          exact ⟨rfl, HSrc.out.sized (k := len / 20) (by rw [show ((len / 20 : Nat) : Int) = (len : Int) / 20 from by omega]; exact HT1.out) (by omega), HB.out.setCell (Nat.le_refl _) _⟩

set_option maxRecDepth 100000 in
set_option maxHeartbeats 2000000 in
theorem edge_any (sb : Nat) (ao : Option Addr) (len cap : Nat) (w : World) (hl : len ≤ 1048576) (h : Src w sb ao len cap) :
    Calls Tryd.prog 29 #[.pointer (some ⟨sb, 0, none⟩)] w fun e w' => ∃ r : Int, e = .returned (.int .i64 r) ∧ -9223372036854775808 ≤ r ∧ r ≤ 9223372036854775807 ∧ Src w' sb ao len cap ∧ w.grownBy w' (some sb) := by
  have HN : Hid (∀ w, Src w sb ao len cap → Calls Tryd.prog 25 #[.pointer (some ⟨sb, 0, none⟩), .int .i64 14] w fun e w' => ∃ r : Int, e = .returned (.int .i64 r) ∧ 0 ≤ r ∧ r < 14 ∧ Src w' sb ao len cap ∧ w.grownBy w' (some sb)) := fun w h => n_any sb ao len cap 14 w (by omega) (by omega) hl h
  have HH := hide h
  clear h hl
  go_enter Tryd.func29, Tryd.ntmps29
  go_wp2_with fail
  refine (HN.out _ (HH.out.kept (grown_alloc w _ none) (fun k h => by cases h))).mono ?_
  rintro e w1 ⟨r, rfl, r0, r1, hs1, hg1⟩
  obtain ⟨j, rfl⟩ := Int.eq_ofNat_of_zero_le r0
  have hlt := HH.out.lt
  have key := fun v h => hg1.cell (a := ⟨w.heap.size, j, none⟩) (v := v) ((World.cell?_alloc_at _ _ _ _ rfl).trans h) (by simp; omega)
  obtain ⟨v, hv, v0, v1⟩ : ∃ v : Int, w1.cell? ⟨w.heap.size, j, none⟩ = some (.int .i64 v) ∧ -9223372036854775808 ≤ v ∧ v ≤ 9223372036854775807 := by
    have hj : j = 0 ∨ j = 1 ∨ j = 2 ∨ j = 3 ∨ j = 4 ∨ j = 5 ∨ j = 6 ∨ j = 7 ∨ j = 8 ∨ j = 9 ∨ j = 10 ∨ j = 11 ∨ j = 12 ∨ j = 13 := by omega
    rcases hj with rfl | rfl | rfl | rfl | rfl | rfl | rfl | rfl | rfl | rfl | rfl | rfl | rfl | rfl <;> exact ⟨_, key _ rfl, by omega, by omega⟩
  have H1 := hide (And.intro hs1 (And.intro (grown_trans (grown_alloc w _ (some sb)) hg1) (And.intro v0 v1)))
  clear hs1 hg1 v0 v1 key
  go_wp2
  go_ret
  exact ⟨v, rfl, H1.out.2.2.1, H1.out.2.2.2, H1.out.1, H1.out.2.1⟩

/-- string(b) of a new row. -/
theorem conv_new (w : World) (arr : Array Value) (T : TypeId) (l : List UInt8) (cap : Nat) (h : ∀ j (hj : j < l.length), arr[j]? = some (.int .u8 (l[j].toNat : Int))) :
    (convert 22 9 (.slice (some ⟨w.heap.size, 0, none⟩) l.length cap)).run Tryd.prog (w.alloc (.cells arr T)) = .ok (.string ⟨l.toArray⟩) (w.alloc (.cells arr T)) := by
  refine run_convert_bytes_back (P := Tryd.prog) (w.alloc (.cells arr T)) 22 9 5 ⟨w.heap.size, 0, none⟩ cap l Tryd.underlying22 Tryd.underlying5 Tryd.underlying9 (fun j hj => ?_)
  have ea : (⟨w.heap.size, 0, none⟩ : Addr).add j = ⟨w.heap.size, j, none⟩ := by unfold Addr.add; split <;> simp_all
  rw [ea, World.cell?_alloc_at _ _ _ _ rfl]
  exact h j hj

theorem conv_zeros (w : World) (T : Nat) :
    (convert 22 9 (.slice (some ⟨w.heap.size, 0, none⟩) T T)).run Tryd.prog (w.alloc (.cells (madeCells #[.int .u8 0] T) 5)) = .ok (.string ⟨(List.replicate T (0 : UInt8)).toArray⟩) (w.alloc (.cells (madeCells #[.int .u8 0] T) 5)) := by
  have := conv_new w (madeCells #[.int .u8 0] T) 5 (List.replicate T (0 : UInt8)) T (fun j hj => by
    have hj' : j < T := by simpa using hj
    rw [← Array.getElem?_toList, toList_madeCells_one]
    simp [hj'])
  simpa using this

end Go.Proofs.YtpnaigmaeabadaaDoor
