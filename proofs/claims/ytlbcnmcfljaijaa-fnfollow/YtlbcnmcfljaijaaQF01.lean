import Derived.Test.YtlbcnmcfljaijaaQF00
import Derived.WalkKit
import Derived.WalkSpells
import Derived.WalkLawsBesides
import Derived.BigRegion
import Derived.Test.YtlbcnmcfljaijaaRows
import Derived.Deep.RegionWith
import Derived.Deep.LoopGhost
import Derived.Deep.Slices
import Derived.ChangeArms
import Derived.ChangeSame
namespace Go.Proofs.Ytlbcnmcfljaijaa
open Go.RowKit

def U64 (v : Nat) : Prop := v < 18446744073709551616
theorem U64.lt {v : Nat} (h : U64 v) : v < 18446744073709551616 := h
structure Turned (w w' : World) (sb i : Nat) (v : Value) : Prop where
  same : w'.cell? ⟨sb, i, none⟩ = some v
  other : ∀ j, j ≠ i → w'.cell? ⟨sb, j, none⟩ = w.cell? ⟨sb, j, none⟩
  mark : ∀ j, w'.frozen? ⟨sb, j, none⟩ = w.frozen? ⟨sb, j, none⟩
  grown : w.grownBy w' (some sb)
theorem turned (w : World) (sb i : Nat) (v old : Value) (h : w.cell? ⟨sb, i, none⟩ = some old) : Turned w (w.setCell ⟨sb, i, none⟩ v) sb i v where
  same := by simp [World.cell?_setCell_same, h]
  other := fun j hj => by rw [World.cell?_setCell_other]; simp
  mark := fun j => by simp
  grown := ⟨rfl, rfl, rfl, by simp [World.setCell], fun k _ hk => Below.heap_setCell _ _ _ _ (fun e => hk (by simp [e]))⟩
theorem Turned.drew {w w' : World} {sb i : Nat} {v : Value} (h : Turned w w' sb i v) : Turned w w'.drew sb i v := ⟨h.same, h.other, h.mark, ⟨h.grown.os, h.grown.tape, h.grown.output, h.grown.size, h.grown.block⟩⟩

theorem grown_trans {a b c : World} {r : Option Nat} (h : a.grownBy b r) (k : b.grownBy c r) : a.grownBy c r :=
  ⟨k.os.trans h.os, k.tape.trans h.tape, k.output.trans h.output, Nat.le_trans h.size k.size, fun i hi hr => (k.block i (Nat.lt_of_lt_of_le hi h.size) hr).trans (h.block i hi hr)⟩

structure Src (w : World) (sb : Nat) (ao : Option Addr) (len cap : Nat) : Prop where
  c0 : w.cell? ⟨sb, 0, none⟩ = some (.slice ao len cap)
  c1 : ∃ p : Nat, p ≤ len ∧ w.cell? ⟨sb, 1, none⟩ = some (.int .i64 (p : Int))
  c2 : ∃ mix : Nat, U64 mix ∧ w.cell? ⟨sb, 2, none⟩ = some (.int .u64 (mix : Int))
  c3 : ∃ k : Nat, k ≤ 12 ∧ w.cell? ⟨sb, 3, none⟩ = some (.int .i64 (k : Int))
  fr : ∀ j, w.frozen? ⟨sb, j, none⟩ = false
  row : ∀ i, i < len → ∃ b off z, ao = some ⟨b, off, none⟩ ∧ b < sb ∧ w.cell? ⟨b, off + i, none⟩ = some (.int .u8 z) ∧ 0 ≤ z ∧ z < 256

theorem grown_alloc (w : World) (o : Obj) (r : Option Nat) : w.grownBy (w.alloc o) r := ⟨rfl, rfl, rfl, by simp, fun k hk _ => Below.heap_alloc _ _ _ hk⟩
theorem grown_refl (w : World) (r : Option Nat) : w.grownBy w r := ⟨rfl, rfl, rfl, Nat.le_refl _, fun _ _ _ => rfl⟩
theorem Src.lt {w : World} {sb : Nat} {ao : Option Addr} {len cap : Nat} (h : Src w sb ao len cap) : sb < w.heap.size := World.block_lt_of_cell? w _ h.c0
theorem Src.kept {w w' : World} {sb : Nat} {ao : Option Addr} {len cap : Nat} {r : Option Nat} (h : Src w sb ao len cap) (hg : w.grownBy w' r) (hr : ∀ k, r = some k → sb < k) : Src w' sb ao len cap := by
  have hne : ∀ k, k ≤ sb → some k ≠ r := fun k hk e => by have := hr k e.symm; omega
  obtain ⟨p, hp, c1⟩ := h.c1
  obtain ⟨m, hm, c2⟩ := h.c2
  obtain ⟨k, hk, c3⟩ := h.c3
  refine ⟨hg.cell h.c0 (hne _ (Nat.le_refl _)), ⟨p, hp, hg.cell c1 (hne _ (Nat.le_refl _))⟩, ⟨m, hm, hg.cell c2 (hne _ (Nat.le_refl _))⟩, ⟨k, hk, hg.cell c3 (hne _ (Nat.le_refl _))⟩, fun j => ?_, fun i hi => ?_⟩
  · rw [World.frozen?_of_block (w := w) (w' := w') (a := ⟨sb, j, none⟩) (hg.block sb h.lt (hne _ (Nat.le_refl _)))]
    exact h.fr j
  · obtain ⟨b, off, z, e, hb, hc, hz⟩ := h.row i hi
    exact ⟨b, off, z, e, hb, hg.cell hc (hne b (by omega)), hz⟩
theorem rem_range {x most : Int} (hx : 0 ≤ x) (hm : 1 < most) (hm2 : most ≤ 1099511627776) : 0 ≤ wrap64 (x.tmod most) ∧ wrap64 (x.tmod most) < most := by
  have h0 : 0 ≤ x.tmod most := Int.tmod_nonneg _ hx
  have h1 : x.tmod most < most := Int.tmod_lt_of_pos _ (by omega)
  have e : wrap64 (x.tmod most) = x.tmod most := by unfold wrap64; omega
  rw [e]; exact ⟨h0, h1⟩
theorem wrap_u64_nonneg (x : Int) : 0 ≤ IntKind.u64.wrap x := by rw [IntKind.wrap_u64]; omega

theorem src_of {w wA w7 w8 w9 : World} {sb : Nat} {ao : Option Addr} {len cap p m7 m8 m9 : Nat} (hp : p ≤ len)
    (row : ∀ i, i < len → ∃ b off z, ao = some ⟨b, off, none⟩ ∧ b < sb ∧ w.cell? ⟨b, off + i, none⟩ = some (.int .u8 z) ∧ 0 ≤ z ∧ z < 256)
    (c3 : ∃ k : Nat, k ≤ 12 ∧ w.cell? ⟨sb, 3, none⟩ = some (.int .i64 (k : Int))) (c0 : w.cell? ⟨sb, 0, none⟩ = some (.slice ao len cap)) (fr : ∀ j, w.frozen? ⟨sb, j, none⟩ = false)
    (hA : wA.cell? ⟨sb, 1, none⟩ = some (.int .i64 (p : Int)) ∧ (∀ j, j ≠ 1 → wA.cell? ⟨sb, j, none⟩ = w.cell? ⟨sb, j, none⟩) ∧ (∀ j, wA.frozen? ⟨sb, j, none⟩ = w.frozen? ⟨sb, j, none⟩) ∧ w.grownBy wA (some sb))
    (h7 : Turned wA w7 sb 2 (.int .u64 (m7 : Int))) (h8 : Turned w7 w8 sb 2 (.int .u64 (m8 : Int))) (h9 : Turned w8 w9 sb 2 (.int .u64 (m9 : Int))) (hu : U64 m9) :
    Src w9 sb ao len cap ∧ w.grownBy w9 (some sb) := by
  have hg := grown_trans hA.2.2.2 (grown_trans h7.grown (grown_trans h8.grown h9.grown))
  have ho : ∀ j, j ≠ 2 → w9.cell? ⟨sb, j, none⟩ = wA.cell? ⟨sb, j, none⟩ := fun j hj => (h9.other j hj).trans ((h8.other j hj).trans (h7.other j hj))
  refine ⟨⟨?_, ⟨p, hp, ?_⟩, ⟨m9, hu, h9.same⟩, ?_, ?_, ?_⟩, hg⟩
  · rw [ho 0 (by omega), hA.2.1 0 (by omega)]; exact c0
  · rw [ho 1 (by omega)]; exact hA.1
  · obtain ⟨k, hk, e⟩ := c3
    exact ⟨k, hk, by rw [ho 3 (by omega), hA.2.1 3 (by omega)]; exact e⟩
  · intro j
    rw [h9.mark, h8.mark, h7.mark, hA.2.2.1]; exact fr j
  · intro i hi
    obtain ⟨b, off, z, e, hb, hc, hz⟩ := row i hi
    exact ⟨b, off, z, e, hb, hg.cell hc (by simp; omega), hz⟩

theorem xor64 (a b : Int) : ∃ m : Nat, U64 m ∧ bits .xor .u64 a b = (m : Int) := by
  have h0 := bits_lo_u64 .xor a b
  have h1 := bits_hi_u64 .xor a b
  exact ⟨(bits .xor .u64 a b).toNat, by unfold U64; omega, by omega⟩

set_option maxRecDepth 100000 in
set_option maxHeartbeats 4000000 in
theorem n_any (sb : Nat) (ao : Option Addr) (len cap : Nat) (most : Int) (w : World) (hm : 1 < most) (hm2 : most ≤ 1099511627776) (hl : len ≤ 1048576) (h : Src w sb ao len cap) :
    Calls Try.prog 14 #[.pointer (some ⟨sb, 0, none⟩), .int .i64 most] w fun e w' => ∃ r : Int, e = .returned (.int .i64 r) ∧ 0 ≤ r ∧ r < most ∧ Src w' sb ao len cap ∧ w.grownBy w' (some sb) := by
  obtain ⟨c0, ⟨p, hp, c1⟩, ⟨mix, hmix, c2⟩, c3, fr, row⟩ := h
  have HROW := hide row
  have HC3 := hide c3
  clear row c3
  by_cases ho : p < len
  · obtain ⟨b, off, z, rfl, hbs, cz, hz0, hz1⟩ := HROW.out p ho
    go_enter Try.func14, Try.ntmps14
    go_wp2
    go_region
    go_wp2
    go_region
    go_wp2
    have hT := ((turned w sb 1 (.int .i64 ((p : Int) + 1)) _ c1).drew).drew
    generalize ((w.setCell ⟨sb, 1, none⟩ (.int .i64 ((p : Int) + 1))).drew).drew = wA at *
    have k2 : wA.cell? ⟨sb, 2, none⟩ = some (.int .u64 (mix : Int)) := (hT.other 2 (by omega)).trans c2
    have kf : ∀ j, wA.frozen? ⟨sb, j, none⟩ = false := fun j => (hT.mark j).trans (fr j)
    have HT := hide hT
    have HF := hide (And.intro c0 (And.intro c1 fr))
    clear c0 c1 c2 fr hT cz
    go_region
    go_wp2
    obtain ⟨m7, hu7, e7⟩ := xor64 (mix : Int) (IntKind.u64.wrap ((mix : Int) * 8192))
    rw [e7]
    have hT7 := (turned wA sb 2 (.int .u64 (m7 : Int)) _ k2).drew
    generalize (wA.setCell ⟨sb, 2, none⟩ (.int .u64 (m7 : Int))).drew = w7 at *
    have k7 := hT7.same
    have f7 : ∀ j, w7.frozen? ⟨sb, j, none⟩ = false := fun j => (hT7.mark j).trans (kf j)
    have HT7 := hide hT7
    clear k2 kf hT7 e7
    go_region
    go_wp2
    obtain ⟨m8, hu8, e8⟩ := xor64 (m7 : Int) ((m7 : Int) / 128)
    rw [e8]
    have hT8 := (turned w7 sb 2 (.int .u64 (m8 : Int)) _ k7).drew
    generalize (w7.setCell ⟨sb, 2, none⟩ (.int .u64 (m8 : Int))).drew = w8 at *
    have k8 := hT8.same
    have f8 : ∀ j, w8.frozen? ⟨sb, j, none⟩ = false := fun j => (hT8.mark j).trans (f7 j)
    have HT8 := hide hT8
    clear k7 f7 hT8 e8
    go_region
    go_wp2
    obtain ⟨m9, hu9, e9⟩ := xor64 (m8 : Int) (IntKind.u64.wrap ((m8 : Int) * 131072))
    rw [e9]
    have hT9 := (turned w8 sb 2 (.int .u64 (m9 : Int)) _ k8).drew
    generalize (w8.setCell ⟨sb, 2, none⟩ (.int .u64 (m9 : Int))).drew = w9 at *
    have HT9 := hide hT9
    clear k8 f8 hT9 e9
    go_ret
    have hfin := src_of (p := p + 1) (by omega) HROW.out HC3.out HF.out.1 HF.out.2.2 ⟨by rw [show ((p + 1 : Nat) : Int) = (p : Int) + 1 from by omega]; exact HT.out.same, HT.out.other, HT.out.mark, HT.out.grown⟩ HT7.out HT8.out HT9.out hu9
    have hr := rem_range (wrap_u64_nonneg (z + (m9 : Int) / 1048576)) hm hm2
    exact ⟨_, rfl, hr.1, hr.2, hfin.1, hfin.2⟩
  · go_enter Try.func14, Try.ntmps14
    go_wp2
    go_region
    go_wp2
    generalize hwA : w.drew = wA at *
    have k2 : wA.cell? ⟨sb, 2, none⟩ = some (.int .u64 (mix : Int)) := by rw [← hwA]; exact c2
    have kf : ∀ j, wA.frozen? ⟨sb, j, none⟩ = false := fun j => by rw [← hwA]; exact fr j
    have HA : Hid (wA.cell? ⟨sb, 1, none⟩ = some (.int .i64 (p : Int)) ∧ (∀ j, j ≠ 1 → wA.cell? ⟨sb, j, none⟩ = w.cell? ⟨sb, j, none⟩) ∧ (∀ j, wA.frozen? ⟨sb, j, none⟩ = w.frozen? ⟨sb, j, none⟩) ∧ w.grownBy wA (some sb)) := by
      rw [← hwA]; exact ⟨c1, fun _ _ => rfl, fun _ => rfl, ⟨rfl, rfl, rfl, Nat.le_refl _, fun _ _ _ => rfl⟩⟩
    have HF := hide (And.intro c0 (And.intro c1 fr))
    clear c0 c1 c2 fr hwA
    go_region
    go_wp2
    obtain ⟨m7, hu7, e7⟩ := xor64 (mix : Int) (IntKind.u64.wrap ((mix : Int) * 8192))
    rw [e7]
    have hT7 := (turned wA sb 2 (.int .u64 (m7 : Int)) _ k2).drew
    generalize (wA.setCell ⟨sb, 2, none⟩ (.int .u64 (m7 : Int))).drew = w7 at *
    have k7 := hT7.same
    have f7 : ∀ j, w7.frozen? ⟨sb, j, none⟩ = false := fun j => (hT7.mark j).trans (kf j)
    have HT7 := hide hT7
    clear k2 kf hT7 e7
    go_region
    go_wp2
    obtain ⟨m8, hu8, e8⟩ := xor64 (m7 : Int) ((m7 : Int) / 128)
    rw [e8]
    have hT8 := (turned w7 sb 2 (.int .u64 (m8 : Int)) _ k7).drew
    generalize (w7.setCell ⟨sb, 2, none⟩ (.int .u64 (m8 : Int))).drew = w8 at *
    have k8 := hT8.same
    have f8 : ∀ j, w8.frozen? ⟨sb, j, none⟩ = false := fun j => (hT8.mark j).trans (f7 j)
    have HT8 := hide hT8
    clear k7 f7 hT8 e8
    go_region
    go_wp2
    obtain ⟨m9, hu9, e9⟩ := xor64 (m8 : Int) (IntKind.u64.wrap ((m8 : Int) * 131072))
    rw [e9]
    have hT9 := (turned w8 sb 2 (.int .u64 (m9 : Int)) _ k8).drew
    generalize (w8.setCell ⟨sb, 2, none⟩ (.int .u64 (m9 : Int))).drew = w9 at *
    have HT9 := hide hT9
    clear k8 f8 hT9 e9
    go_ret
    have hfin := src_of (p := p) hp HROW.out HC3.out HF.out.1 HF.out.2.2 HA.out HT7.out HT8.out HT9.out hu9
    have hr := rem_range (wrap_u64_nonneg ((m9 : Int) / 1048576)) hm hm2
    exact ⟨_, rfl, hr.1, hr.2, hfin.1, hfin.2⟩

theorem n_one (sb : Nat) (ao : Option Addr) (len cap : Nat) (most : Int) (w : World) (hm : 1 < most) (hm2 : most ≤ 1099511627776) (hl : len ≤ 1048576) (h : Src w sb ao len cap) :
    Calls Try.prog 17 #[.pointer (some ⟨sb, 0, none⟩), .int .i64 most] w fun e w' => ∃ b : Bool, e = .returned (.bool b) ∧ Src w' sb ao len cap ∧ w.grownBy w' (some sb) := by
  have HN : Hid (∀ w, Src w sb ao len cap → Calls Try.prog 14 #[.pointer (some ⟨sb, 0, none⟩), .int .i64 most] w fun e w' => ∃ r : Int, e = .returned (.int .i64 r) ∧ 0 ≤ r ∧ r < most ∧ Src w' sb ao len cap ∧ w.grownBy w' (some sb)) := fun w h => n_any sb ao len cap most w hm hm2 hl h
  have HH := hide h
  clear h hm hm2 hl
  go_enter Try.func17, Try.ntmps17
  go_wp2_with fail
  refine (HN.out _ HH.out).mono ?_
  rintro e w1 ⟨r, rfl, h0, h1, hs, hg⟩
  have H1 := hide (And.intro hs hg)
  clear hs hg h0 h1
  go_wp2
  go_ret
  exact ⟨_, rfl, H1.out.1, H1.out.2⟩

def ArgRow (w : World) (ao : Option Addr) (len : Nat) : Prop := ∀ i, i < len → ∃ b off z, ao = some ⟨b, off, none⟩ ∧ w.cell? ⟨b, off + i, none⟩ = some (.int .u8 z) ∧ 0 ≤ z ∧ z < 256
theorem ArgRow.below {w w' : World} {ao : Option Addr} {len : Nat} (h : ArgRow w ao len) (hb : Below w.heap.size w w') : ArgRow w' ao len := fun i hi => by
  obtain ⟨b, off, z, e, hc, hz⟩ := h i hi
  exact ⟨b, off, z, e, (hb.cell (p := ⟨b, off + i, none⟩) (World.block_lt_of_cell? w _ hc)).trans hc, hz⟩

theorem Src.mixed {w w' : World} {sb : Nat} {ao : Option Addr} {len cap m : Nat} (h : Src w sb ao len cap) (ht : Turned w w' sb 2 (.int .u64 (m : Int))) (hm : U64 m) : Src w' sb ao len cap := by
  obtain ⟨p, hp, c1⟩ := h.c1
  obtain ⟨k, hk, c3⟩ := h.c3
  refine ⟨(ht.other 0 (by omega)).trans h.c0, ⟨p, hp, (ht.other 1 (by omega)).trans c1⟩, ⟨m, hm, ht.same⟩, ⟨k, hk, (ht.other 3 (by omega)).trans c3⟩, fun j => (ht.mark j).trans (h.fr j), fun i hi => ?_⟩
  obtain ⟨b, off, z, e, hb, hc, hz⟩ := h.row i hi
  exact ⟨b, off, z, e, hb, ht.grown.cell hc (by simp; omega), hz⟩
theorem Src.sized {w w' : World} {sb : Nat} {ao : Option Addr} {len cap k : Nat} (h : Src w sb ao len cap) (ht : Turned w w' sb 3 (.int .i64 (k : Int))) (hk : k ≤ 12) : Src w' sb ao len cap := by
  obtain ⟨p, hp, c1⟩ := h.c1
  obtain ⟨m, hm, c2⟩ := h.c2
  refine ⟨(ht.other 0 (by omega)).trans h.c0, ⟨p, hp, (ht.other 1 (by omega)).trans c1⟩, ⟨m, hm, (ht.other 2 (by omega)).trans c2⟩, ⟨k, hk, ht.same⟩, fun j => (ht.mark j).trans (h.fr j), fun i hi => ?_⟩
  obtain ⟨b, off, z, e, hb, hc, hz⟩ := h.row i hi
  exact ⟨b, off, z, e, hb, ht.grown.cell hc (by simp; omega), hz⟩
theorem wrap64_nat (x : Int) : ∃ m : Nat, U64 m ∧ IntKind.u64.wrap x = (m : Int) := by
  rw [IntKind.wrap_u64]
  exact ⟨(x % 18446744073709551616).toNat, by unfold U64; omega, by omega⟩
theorem sized_big {w w1 w2 : World} {sb : Nat} {ao : Option Addr} {len cap : Nat} {v : Value} (h : Src w sb ao len cap) (h1 : Turned w w1 sb 3 v) (h2 : Turned w1 w2 sb 3 (.int .i64 12)) : Src w2 sb ao len cap :=
  h.sized (k := 12) ⟨h2.same, fun j hj => (h2.other j hj).trans (h1.other j hj), fun j => (h2.mark j).trans (h1.mark j), grown_trans h1.grown h2.grown⟩ (by omega)

set_option maxRecDepth 100000 in
set_option maxHeartbeats 4000000 in
theorem source_any (ao : Option Addr) (len cap : Nat) (w : World) (hl : len ≤ 1048576) (hr : ArgRow w ao len) :
    Calls Try.prog 12 #[.slice ao len cap] w fun e w' => e = .returned (.pointer (some ⟨w.heap.size, 0, none⟩)) ∧ Src w' w.heap.size ao len cap ∧ Below w.heap.size w w' := by
  have HR := hide hr
  clear hr
  go_enter Try.func12, Try.ntmps12
  go_wp2
  go_loopw [4] (fun i wr => ∃ k : Nat, k ≤ len ∧ k ≤ 64 ∧ i = .int .i64 k ∧ Src wr w.heap.size ao len cap ∧ Below w.heap.size w wr) (fun i _ => 64 - (intOf i).toNat)
  case atStart =>
    refine ⟨0, by omega, by omega, rfl, ⟨by simp, ⟨0, by omega, by simp⟩, ⟨88172645463325252, by unfold U64; omega, by simp⟩, ⟨0, by omega, by simp⟩, fun j => by simp [World.frozen?_alloc_at], fun i hi => ?_⟩, (Below.refl _ _).alloc (Nat.le_refl _) _⟩
    obtain ⟨b, off, z, e, hc, hz⟩ := HR.out i hi
    have hbl := World.block_lt_of_cell? w _ hc
    exact ⟨b, off, z, e, hbl, (World.cell?_alloc_lt w _ ⟨b, off + i, none⟩ hbl).trans hc, hz⟩
  case round =>
    obtain ⟨k, hk, hk64, rfl, hs, hbel⟩ := hrel
    have HSrc := hide hs
    obtain ⟨c0, ⟨p, hp, c1⟩, ⟨mix, hmix, c2⟩, ⟨q, hq, c3⟩, fr, row⟩ := hs
    have HROW := hide row
    have HB := hide hbel
    clear row hbel
    by_cases hlt : k < len ∧ k < 64
    · obtain ⟨h1, h2⟩ := hlt
      obtain ⟨b, off, z, rfl, hbs, cz, hz0, hz1⟩ := HROW.out k h1
      go_wp2
      go_region
      go_wp2
      go_roundw
      case rel =>
        obtain ⟨m, hu, e⟩ := wrap64_nat (bits .xor .u64 (mix : Int) z * 1099511628211)
        rw [e]
        have hT := (turned wr w.heap.size 2 (.int .u64 (m : Int)) _ c2).drew
        exact ⟨k + 1, by omega, by omega, by go_num, HSrc.out.mixed hT hu, (HB.out.setCell (Nat.le_refl _) _).drew⟩
      case measure => simp [intOf]; omega
    · have hcase : (¬ k < len) ∨ (k < len ∧ ¬ k < 64) := by omega
      clear hlt
      have hT1 := turned wr w.heap.size 3 (.int .i64 ((len : Int) / 20)) _ c3
      have HT1 := hide hT1
      by_cases h12 : 12 < (len : Int) / 20
      · rcases hcase with h1 | ⟨h1, h2⟩
        · exact absurd h12 (by omega)
        · have HT2 := hide (turned (wr.setCell ⟨w.heap.size, 3, none⟩ (.int .i64 ((len : Int) / 20))) w.heap.size 3 (.int .i64 12) _ hT1.same)
          clear hT1
          go_wp2
          go_ret
          exact ⟨rfl, sized_big HSrc.out HT1.out HT2.out, (HB.out.setCell (Nat.le_refl _) _).setCell (Nat.le_refl _) _⟩
      · rcases hcase with h1 | ⟨h1, h2⟩
        all_goals
          clear hT1
          go_wp2
          go_ret
          exact ⟨rfl, HSrc.out.sized (k := len / 20) (by rw [show ((len / 20 : Nat) : Int) = (len : Int) / 20 from by omega]; exact HT1.out) (by omega), HB.out.setCell (Nat.le_refl _) _⟩

end Go.Proofs.Ytlbcnmcfljaijaa
namespace Go.Proofs.Ytlbcnmcfljaijaa
open Go.RowKit

structure Nd where
  op : Int
  name : ByteArray
  peer : ByteArray
  many : Int
  sort : Int

def Nd.val (n : Nd) : Value := .agg #[.int .i64 n.op, .string n.name, .string n.peer, .int .i64 n.many, .int .i64 n.sort]
def Nd.ok (n : Nd) : Prop := n.name.size ≤ maxLen ∧ n.peer.size ≤ maxLen

def wordB (t : ByteArray) : Bool := nameB t && (!(t.toList == [101, 110, 100]) && !(t.toList == [114, 101, 99]))
def sortB (n : Int) : Bool := decide (0 ≤ n) && decide (n ≤ 2)
def manyB (n : Int) : Bool := decide (1 ≤ n) && decide (n ≤ 4)
def recB (n : Nd) : Bool := n.op == 2 && n.peer.toList == [] && n.many == 0 && n.sort == 0 && wordB n.name
def varB (n : Nd) : Bool := n.op == 1 && n.peer.toList == [] && n.many == 0 && n.sort == 0
def endB (n : Nd) : Bool := n.op == 0 && n.name.toList == [] && n.peer.toList == [] && n.many == 0 && n.sort == 0
def talkS (part : Bool) (n : Nd) : Bool := wordB n.peer && manyB n.many && n.sort == 0 && (if part then n.name.toList == [] && (n.op == 5 || n.op == 6) else n.op == 3 && wordB n.name && !(n.name.toList == n.peer.toList))
def caseB (n : Nd) : Bool := n.op == 4 && n.peer.toList == [] && n.many == 0 && wordB n.name && sortB n.sort

theorem alloc1 (w : World) (o : Obj) : Below w.heap.size w (w.alloc o) := (Below.refl _ _).alloc (Nat.le_refl _) o

set_option maxHeartbeats 400000 in
theorem s_name (t : ByteArray) (w : World) (hs : t.size ≤ maxLen) :
    Calls Try.prog 73 #[.string t] w fun e w' => e = .returned (.bool (wordB t)) ∧ w' = w := by
  obtain ⟨b, hb⟩ : ∃ b, nameB t = b := ⟨_, rfl⟩
  have HB := hide hb
  have HS := hide hs
  clear hb hs
  cases b
  all_goals
    go_enter Try.func73, Try.ntmps73
    go_wp2_with (go_at_call 23; refine (spec_name t _ (unhide HS)).mono ?_; rintro e w' ⟨rfl, rfl⟩; rw [unhide HB])
    all_goals
      go_ret
      refine ⟨ret_bool ?_, rfl⟩
      rw [wordB, unhide HB]
      simp [*]

theorem s_is (n lo hi : Int) (w : World) :
    Calls Try.prog 22 #[.int .i64 n, .int .i64 lo, .int .i64 hi] w fun e w' => e = .returned (.bool (decide (lo ≤ n) && decide (n ≤ hi))) ∧ w' = w := by
  by_cases h : lo ≤ n
  all_goals
    go_enter Try.func22, Try.ntmps22
    go_wp2_with fail
    go_ret
    refine ⟨ret_bool ?_, rfl⟩
    simp [*]
    try omega

theorem s_sort (n : Int) (w : World) :
    Calls Try.prog 24 #[.int .i64 n] w fun e w' => e = .returned (.bool (sortB n)) ∧ w' = w := by
  go_enter Try.func24, Try.ntmps24
  go_wp2_with (go_at_call 22; refine (s_is _ _ _ _).mono ?_; rintro e w' ⟨rfl, rfl⟩)
  go_ret
  exact ⟨ret_bool rfl, rfl⟩

set_option maxHeartbeats 800000 in
theorem s_talk (part : Bool) (bx : Nat) (n : Nd) (w : World) (ok : n.ok) (hx : w.cell? ⟨bx, 1, none⟩ = some (.bool part)) :
    Calls Try.prog 74 #[.pointer (some ⟨bx, 0, none⟩), n.val] w fun e w' => e = .returned (.bool (talkS part n)) ∧ Below w.heap.size w w' := by
  have HR := hide (show talkS part n = (wordB n.peer && manyB n.many && n.sort == 0 && (if part then n.name.toList == [] && (n.op == 5 || n.op == 6) else n.op == 3 && wordB n.name && !(n.name.toList == n.peer.toList))) from rfl)
  obtain ⟨b, hb⟩ : ∃ b, wordB n.name = b := ⟨_, rfl⟩
  obtain ⟨c, hc⟩ : ∃ c, wordB n.peer = c := ⟨_, rfl⟩
  obtain ⟨d, hd⟩ : ∃ d, (decide (1 ≤ n.many) && decide (n.many ≤ 4)) = d := ⟨_, rfl⟩
  have HB := hide hb
  have HC := hide hc
  have HD := hide hd
  have HM := hide (show manyB n.many = d from hd)
  have HS := hide ok.1
  have HT := hide ok.2
  have hlt : bx < w.heap.size := World.block_lt_of_cell? w _ hx
  clear hb hc hd ok
  unfold Nd.val
  cases b
  all_goals cases c
  all_goals cases d
  all_goals cases part
  all_goals
    go_enter Try.func74, Try.ntmps74
    go_wp2_with (first | (go_at_call_of 73 n.name; refine (s_name n.name _ (unhide HS)).mono ?_; rintro e w' ⟨rfl, rfl⟩; rw [unhide HB]) | (go_at_call_of 73 n.peer; refine (s_name n.peer _ (unhide HT)).mono ?_; rintro e w' ⟨rfl, rfl⟩; rw [unhide HC]) | (go_at_call 22; refine (s_is _ _ _ _).mono ?_; rintro e w' ⟨rfl, rfl⟩; rw [unhide HD]))
    all_goals
      go_ret
      refine ⟨ret_bool ?_, alloc1 _ _⟩
      rw [unhide HR, unhide HB, unhide HC, unhide HM]
      simp [*]
      try simp_all
end Go.Proofs.Ytlbcnmcfljaijaa
namespace Go.Proofs.Ytlbcnmcfljaijaa
open Go.RowKit

def NodeAt (w : World) (b o : Nat) (n : Nd) : Prop :=
  w.cell? ⟨b, o, none⟩ = some (.int .i64 n.op) ∧ w.cell? ⟨b, o + 1, none⟩ = some (.string n.name) ∧ w.cell? ⟨b, o + 2, none⟩ = some (.string n.peer) ∧
  w.cell? ⟨b, o + 3, none⟩ = some (.int .i64 n.many) ∧ w.cell? ⟨b, o + 4, none⟩ = some (.int .i64 n.sort)
def RowAt (w : World) (b : Nat) : Nat → List Nd → Prop
  | _, [] => True
  | o, n :: l => NodeAt w b o n ∧ RowAt w b (o + 5) l

theorem NodeAt.carry {w w' : World} {b o : Nat} {n : Nd} (h : NodeAt w b o n) {B : Nat} (hB : b < B) (hb : Below B w w') : NodeAt w' b o n := by
  obtain ⟨h0, h1, h2, h3, h4⟩ := h
  exact ⟨(hb.cell (p := ⟨b, _, none⟩) hB).trans h0, (hb.cell (p := ⟨b, _, none⟩) hB).trans h1, (hb.cell (p := ⟨b, _, none⟩) hB).trans h2, (hb.cell (p := ⟨b, _, none⟩) hB).trans h3, (hb.cell (p := ⟨b, _, none⟩) hB).trans h4⟩
theorem NodeAt.lt {w : World} {b o : Nat} {n : Nd} (h : NodeAt w b o n) : b < w.heap.size := World.block_lt_of_cell? w _ h.1
theorem RowAt.carry {w w' : World} {b B : Nat} (hB : b < B) (hb : Below B w w') : ∀ {l : List Nd} {o : Nat}, RowAt w b o l → RowAt w' b o l
  | [], _, _ => trivial
  | _ :: _, _, h => ⟨h.1.carry hB hb, RowAt.carry hB hb h.2⟩
theorem RowAt.lt {w : World} {b o : Nat} {n : Nd} {l : List Nd} (h : RowAt w b o (n :: l)) : b < w.heap.size := h.1.lt
theorem RowAt.get {w : World} {b : Nat} : ∀ {l : List Nd} {o : Nat}, RowAt w b o l → ∀ i (h : i < l.length), NodeAt w b (o + i * 5) l[i]
  | _ :: _, _, h, 0, _ => by simpa using h.1
  | _ :: l, o, h, i + 1, hi => by
    have := h.2.get i (by simpa using hi)
    rw [show o + 5 + i * 5 = o + (i + 1) * 5 from by omega] at this
    simpa using this
theorem RowAt.drop {w : World} {b : Nat} : ∀ {l : List Nd} {o : Nat}, RowAt w b o l → ∀ i, RowAt w b (o + i * 5) (l.drop i)
  | _, _, h, 0 => by simpa using h
  | [], _, _, i + 1 => by simp [RowAt]
  | _ :: l, o, h, i + 1 => by
    have := h.2.drop i
    rw [show o + 5 + i * 5 = o + (i + 1) * 5 from by omega] at this
    simpa using this

def SlAt (w : World) (B : Nat) (v : Value) (ns : List Nd) : Prop :=
  ∃ ao cap, v = .slice ao ns.length cap ∧ ns.length ≤ cap ∧ (cap ≤ 9223372036854775807 ∧ ns.length ≤ 4294967296) ∧ (ns ≠ [] → ∃ b o, ao = some ⟨b, o, none⟩ ∧ b < B ∧ RowAt w b o ns)
theorem SlAt.carry {w w' : World} {B : Nat} {v : Value} {ns : List Nd} (h : SlAt w B v ns) (hb : Below B w w') : SlAt w' B v ns := by
  obtain ⟨ao, cap, h1, h2, h3, h4⟩ := h
  refine ⟨ao, cap, h1, h2, h3, fun hne => ?_⟩
  obtain ⟨b, o, e, hlt, hr⟩ := h4 hne
  exact ⟨b, o, e, hlt, hr.carry hlt hb⟩

def PlaceAt (w : World) : Value → List Nd → Prop
  | p, [] => p = .pointer none
  | p, n :: st => ∃ b q, p = .pointer (some ⟨b, 0, none⟩) ∧ NodeAt w b 0 n ∧ w.cell? ⟨b, 5, none⟩ = some (.int .i64 (st.length + 1 : Nat)) ∧ w.cell? ⟨b, 6, none⟩ = some q ∧ PlaceAt w q st
theorem PlaceAt.carry {w w' : World} (hb : Below w.heap.size w w') : ∀ {st : List Nd} {p : Value}, PlaceAt w p st → PlaceAt w' p st
  | [], _, h => h
  | _ :: _, _, ⟨b, q, e, hn, h5, h6, h⟩ => ⟨b, q, e, hn.carry hn.lt hb, (hb.cell (p := ⟨b, _, none⟩) hn.lt).trans h5, (hb.cell (p := ⟨b, _, none⟩) hn.lt).trans h6, PlaceAt.carry hb h⟩
theorem PlaceAt.shape {w : World} {st : List Nd} {p : Value} (h : PlaceAt w p st) : ∃ u, p = .pointer u := by
  cases st with
  | nil => exact ⟨_, h⟩
  | cons => obtain ⟨b, q, e, _⟩ := h; exact ⟨_, e⟩

def withinB (st : List Nd) (name : ByteArray) : Bool := st.any fun n => n.op == 2 && n.name.toList == name.toList
def backB (said : Bool) : List Nd → ByteArray → Bool
  | [], _ => false
  | n :: st, name => if n.op == 2 then (if n.name.toList == name.toList then said else backB said st name) else backB true st name

end Go.Proofs.Ytlbcnmcfljaijaa
namespace Go.Proofs.Ytlbcnmcfljaijaa
open Go.RowKit

def cellBlocks : Value → List Nat
  | .slice (some a) _ _ => [a.block]
  | _ => []
def vblocks : Value → List Nat
  | .agg cs => cs.toList.flatMap cellBlocks
  | v => cellBlocks v
structure Fresh (lo : Nat) (w : World) (v : Value) : Prop where
  lo : ∀ b ∈ vblocks v, lo ≤ b
  hi : ∀ b ∈ vblocks v, b < w.heap.size
  free : ∀ b ∈ vblocks v, ∀ j, w.frozen? ⟨b, j, none⟩ = false
  nodup : (vblocks v).Nodup
structure Apart (w w' : World) (l : List Nat) : Prop where
  os : w'.os = w.os
  tape : w'.tape = w.tape
  output : w'.output = w.output
  size : w.heap.size ≤ w'.heap.size
  block : ∀ b, b < w.heap.size → b ∉ l → w'.heap[b]? = w.heap[b]?
theorem Apart.refl (w : World) : Apart w w [] := ⟨rfl, rfl, rfl, Nat.le_refl _, fun _ _ _ => rfl⟩
theorem below_apart {w w' : World} (h : Below w.heap.size w w') : Apart w w' [] := ⟨h.os, h.tape, h.output, h.size, fun b hb _ => h.block b hb⟩
theorem Apart.trans {a b c : World} {l l' : List Nat} (h : Apart a b l) (h' : Apart b c l') : Apart a c (l ++ l') :=
  ⟨h'.os.trans h.os, h'.tape.trans h.tape, h'.output.trans h.output, Nat.le_trans h.size h'.size, fun k hk hn => by
    rw [List.mem_append, not_or] at hn
    exact (h'.block k (Nat.lt_of_lt_of_le hk h.size) hn.2).trans (h.block k hk hn.1)⟩
theorem Apart.then {a b c : World} {l : List Nat} (h : Apart a b l) (h' : Below b.heap.size b c) : Apart a c l := by
  have := h.trans (below_apart h')
  rwa [List.append_nil] at this
theorem Apart.drew {a b : World} {l : List Nat} (h : Apart a b l) : Apart a b.drew l := ⟨h.os, h.tape, h.output, h.size, h.block⟩
theorem Apart.below {w w' : World} {l : List Nat} (h : Apart w w' l) {B : Nat} (hB : B ≤ w.heap.size) (hl : ∀ b ∈ l, B ≤ b) : Below B w w' :=
  ⟨h.os, h.tape, h.output, h.size, fun k hk => h.block k (Nat.lt_of_lt_of_le hk hB) (fun hm => absurd (hl k hm) (by omega))⟩
theorem Apart.cell {w w' : World} {l : List Nat} (h : Apart w w' l) {b o : Nat} {x : Value} (hc : w.cell? ⟨b, o, none⟩ = some x) (hl : ∀ k ∈ l, b < k) : w'.cell? ⟨b, o, none⟩ = some x :=
  (World.cell?_of_block (a := ⟨b, o, none⟩) (h.block b (World.block_lt_of_cell? w _ hc) (fun hm => absurd (hl b hm) (by omega)))).trans hc
theorem Apart.grown {w w' : World} {b : Nat} (h : w.grownBy w' (some b)) : Apart w w' [b] :=
  ⟨h.os, h.tape, h.output, h.size, fun k hk hn => h.block k hk (fun e => hn (by simp at e; simp [e]))⟩
theorem Apart.grown_none {w w' : World} (h : w.grownBy w' none) : Apart w w' [] :=
  ⟨h.os, h.tape, h.output, h.size, fun k hk _ => h.block k hk (by simp)⟩
theorem grownBy_apart {w w' : World} {p : Option Addr} {n c : Nat} (h : w.grownBy w' (Value.slice p n c).ownBlock) : Apart w w' (vblocks (.slice p n c)) := by
  cases p with
  | none => exact Apart.grown_none h
  | some a => exact Apart.grown h
theorem Fresh.keep {lo : Nat} {w w' : World} {v : Value} {l : List Nat} (h : Fresh lo w v) (ha : Apart w w' l) (hd : ∀ b ∈ vblocks v, b ∉ l) : Fresh lo w' v :=
  ⟨h.lo, fun b hb => Nat.lt_of_lt_of_le (h.hi b hb) ha.size, fun b hb j => (World.frozen?_of_block (a := ⟨b, j, none⟩) (ha.block b (h.hi b hb) (hd b hb))).trans (h.free b hb j), h.nodup⟩
theorem Fresh.own {lo : Nat} {w : World} {p : Option Addr} {n c : Nat} (h : Fresh lo w (.slice p n c)) : MOwn lo w (.slice p n c) := by
  cases p with
  | none => exact ⟨fun b hb => by cases hb⟩
  | some a => exact ⟨fun b hb => by
      simp [Value.ownBlock] at hb; subst hb
      exact ⟨h.lo _ (by simp [vblocks, cellBlocks]), h.hi _ (by simp [vblocks, cellBlocks]), h.free _ (by simp [vblocks, cellBlocks])⟩⟩
theorem own_blocks {v : Value} {p : Option Addr} {n c : Nat} (e : v = .slice p n c) {b : Nat} : v.ownBlock = some b ↔ b ∈ vblocks v := by
  subst e
  cases p with
  | none => simp [Value.ownBlock, vblocks, cellBlocks]
  | some a => simp [Value.ownBlock, vblocks, cellBlocks]; exact ⟨fun h => h.symm, fun h => h.symm⟩
end Go.Proofs.Ytlbcnmcfljaijaa
namespace Go.Proofs.Ytlbcnmcfljaijaa
open Go.RowKit

theorem ms_is (n lo hi : Int) (w : World) :
    Calls Try.prog 22 #[.int .i64 n, .int .i64 lo, .int .i64 hi] w fun e w' => e = .returned (.bool (decide (lo ≤ n) && decide (n ≤ hi))) ∧ w' = w := by
  by_cases h : lo ≤ n
  all_goals
    go_enter Try.func22, Try.ntmps22
    go_wp2_with fail
    go_ret
    refine ⟨ret_bool ?_, rfl⟩
    simp [*]
    try omega
end Go.Proofs.Ytlbcnmcfljaijaa
namespace Go.Proofs.Ytlbcnmcfljaijaa
open Go.RowKit

end Go.Proofs.Ytlbcnmcfljaijaa
namespace Go.Proofs.Ytlbcnmcfljaijaa
open Go.RowKit Go.ChangeShapes Go.WideShapes

end Go.Proofs.Ytlbcnmcfljaijaa
