/- The draws: a source of numbers, a number, one in so many: what each leaves. -/
import Derived.Test.YtonafcifolddjaaGreatDoorQB01
import Derived.WalkKit
import Derived.WalkSpells
import Derived.WalkLawsBesides
import Derived.BigRegion
namespace Go.Proofs.YtonafcifolddjaaGreatDoor
open Go.RowKit

def U64 (v : Nat) : Prop := v < 18446744073709551616
theorem U64.lt {v : Nat} (h : U64 v) : v < 18446744073709551616 := h
/-- What a store into one cell of a block of one's own leaves, behind draws. -/
structure Turned (w w' : World) (sb i : Nat) (v : Value) : Prop where
  same : w'.cell? ⟨sb, i, none⟩ = some v
  other : ∀ j, j ≠ i → w'.cell? ⟨sb, j, none⟩ = w.cell? ⟨sb, j, none⟩
  mark : ∀ j, w'.frozen? ⟨sb, j, none⟩ = w.frozen? ⟨sb, j, none⟩
  grown : w.grownBy w' (some sb)
theorem turned (w : World) (sb i : Nat) (v old : Value) (h : w.cell? ⟨sb, i, none⟩ = some old) : Turned w (w.setCell ⟨sb, i, none⟩ v) sb i v where
  same := by simp [World.cell?_setCell_same, h]
  other := fun j hj => by rw [World.cell?_setCell_other]; simp
  mark := fun j => by simp
  grown := ⟨rfl, rfl, rfl, by simp [World.setCell], fun k _ hk => Below.heap_setCell _ _ _ _ (fun e => hk (by simp [e]))⟩
theorem Turned.drew {w w' : World} {sb i : Nat} {v : Value} (h : Turned w w' sb i v) : Turned w w'.drew sb i v := ⟨h.same, h.other, h.mark, ⟨h.grown.os, h.grown.tape, h.grown.output, h.grown.size, h.grown.block⟩⟩

theorem grown_trans {a b c : World} {r : Option Nat} (h : a.grownBy b r) (k : b.grownBy c r) : a.grownBy c r :=
  ⟨k.os.trans h.os, k.tape.trans h.tape, k.output.trans h.output, Nat.le_trans h.size k.size, fun i hi hr => (k.block i (Nat.lt_of_lt_of_le hi h.size) hr).trans (h.block i hi hr)⟩

/-- The source of draws: four cells of a block of one's own: the bytes that came in, the place, the mix, the size. -/
structure Src (w : World) (sb : Nat) (ao : Option Addr) (len cap : Nat) : Prop where
  c0 : w.cell? ⟨sb, 0, none⟩ = some (.slice ao len cap)
  c1 : ∃ p : Nat, p ≤ len ∧ w.cell? ⟨sb, 1, none⟩ = some (.int .i64 (p : Int))
  c2 : ∃ mix : Nat, U64 mix ∧ w.cell? ⟨sb, 2, none⟩ = some (.int .u64 (mix : Int))
  c3 : ∃ k : Nat, k ≤ 12 ∧ w.cell? ⟨sb, 3, none⟩ = some (.int .i64 (k : Int))
  fr : ∀ j, w.frozen? ⟨sb, j, none⟩ = false
  row : ∀ i, i < len → ∃ b off z, ao = some ⟨b, off, none⟩ ∧ b < sb ∧ w.cell? ⟨b, off + i, none⟩ = some (.int .u8 z) ∧ 0 ≤ z ∧ z < 256

theorem grown_alloc (w : World) (o : Obj) (r : Option Nat) : w.grownBy (w.alloc o) r := ⟨rfl, rfl, rfl, by simp, fun k hk _ => Below.heap_alloc _ _ _ hk⟩
theorem grown_refl (w : World) (r : Option Nat) : w.grownBy w r := ⟨rfl, rfl, rfl, Nat.le_refl _, fun _ _ _ => rfl⟩
theorem grown_frozen {w w' : World} {r : Option Nat} {a : Addr} {v : Value} (hg : w.grownBy w' r) (h : w.cell? a = some v) (hne : some a.block ≠ r) : w'.frozen? a = w.frozen? a :=
  World.frozen?_of_block (hg.block a.block (World.block_lt_of_cell? w a h) hne)
theorem Src.lt {w : World} {sb : Nat} {ao : Option Addr} {len cap : Nat} (h : Src w sb ao len cap) : sb < w.heap.size := World.block_lt_of_cell? w _ h.c0
theorem Src.kept {w w' : World} {sb : Nat} {ao : Option Addr} {len cap : Nat} {r : Option Nat} (h : Src w sb ao len cap) (hg : w.grownBy w' r) (hr : ∀ k, r = some k → sb < k) : Src w' sb ao len cap := by
  have hne : ∀ k, k ≤ sb → some k ≠ r := fun k hk e => by have := hr k e.symm; omega
  obtain ⟨p, hp, c1⟩ := h.c1
  obtain ⟨m, hm, c2⟩ := h.c2
  obtain ⟨k, hk, c3⟩ := h.c3
  refine ⟨hg.cell h.c0 (hne _ (Nat.le_refl _)), ⟨p, hp, hg.cell c1 (hne _ (Nat.le_refl _))⟩, ⟨m, hm, hg.cell c2 (hne _ (Nat.le_refl _))⟩, ⟨k, hk, hg.cell c3 (hne _ (Nat.le_refl _))⟩, fun j => ?_, fun i hi => ?_⟩
  · rw [World.frozen?_of_block (w := w) (w' := w') (a := ⟨sb, j, none⟩) (hg.block sb h.lt (hne _ (Nat.le_refl _)))]
    exact h.fr j
  · obtain ⟨b, off, z, e, hb, hc, hz⟩ := h.row i hi
    exact ⟨b, off, z, e, hb, hg.cell hc (hne b (by omega)), hz⟩
theorem own_kept {W w1 : World} {base e size n sb : Nat} {v : Value} {xs : List Value} (h : W.ownsRow base e size v n xs) (hg : W.grownBy w1 (some sb)) (hb : sb < base) : w1.ownsRow base e size v n xs :=
  h.kept hg (by
    rcases hv : v.ownBlock with _ | g
    · exact .inl rfl
    · exact .inr (by have := (h.lt g hv).1; intro e; have := Option.some.inj e; omega))
theorem grown_own {w w1 w2 : World} {o : Obj} {sb : Nat} {v : Value} (g1 : w.grownBy w1 (some sb)) (hgrow : (w1.alloc o).grownBy w2 v.ownBlock) (hlt : ∀ g, v.ownBlock = some g → w.heap.size ≤ g) : w.grownBy w2 (some sb) := by
  have g2 := grown_trans g1 (grown_alloc w1 o (some sb))
  exact ⟨hgrow.os.trans g2.os, hgrow.tape.trans g2.tape, hgrow.output.trans g2.output, Nat.le_trans g2.size hgrow.size, fun i hi hr => (hgrow.block i (Nat.lt_of_lt_of_le hi g2.size) (fun e => by have := hlt i e.symm; omega)).trans (g2.block i hi hr)⟩
theorem rem_range {x most : Int} (hx : 0 ≤ x) (hm : 1 < most) (hm2 : most ≤ 1099511627776) : 0 ≤ wrap64 (x.tmod most) ∧ wrap64 (x.tmod most) < most := by
  have h0 : 0 ≤ x.tmod most := Int.tmod_nonneg _ hx
  have h1 : x.tmod most < most := Int.tmod_lt_of_pos _ (by omega)
  have e : wrap64 (x.tmod most) = x.tmod most := by unfold wrap64; omega
  rw [e]; exact ⟨h0, h1⟩
theorem wrap_u64_nonneg (x : Int) : 0 ≤ IntKind.u64.wrap x := by rw [IntKind.wrap_u64]; omega

/-- Four turns of the source's own cells leave a source. -/
theorem src_of {w wA w7 w8 w9 : World} {sb : Nat} {ao : Option Addr} {len cap p m7 m8 m9 : Nat} (hp : p ≤ len)
    (row : ∀ i, i < len → ∃ b off z, ao = some ⟨b, off, none⟩ ∧ b < sb ∧ w.cell? ⟨b, off + i, none⟩ = some (.int .u8 z) ∧ 0 ≤ z ∧ z < 256)
    (c3 : ∃ k : Nat, k ≤ 12 ∧ w.cell? ⟨sb, 3, none⟩ = some (.int .i64 (k : Int))) (c0 : w.cell? ⟨sb, 0, none⟩ = some (.slice ao len cap)) (fr : ∀ j, w.frozen? ⟨sb, j, none⟩ = false)
    (hA : wA.cell? ⟨sb, 1, none⟩ = some (.int .i64 (p : Int)) ∧ (∀ j, j ≠ 1 → wA.cell? ⟨sb, j, none⟩ = w.cell? ⟨sb, j, none⟩) ∧ (∀ j, wA.frozen? ⟨sb, j, none⟩ = w.frozen? ⟨sb, j, none⟩) ∧ w.grownBy wA (some sb))
    (h7 : Turned wA w7 sb 2 (.int .u64 (m7 : Int))) (h8 : Turned w7 w8 sb 2 (.int .u64 (m8 : Int))) (h9 : Turned w8 w9 sb 2 (.int .u64 (m9 : Int))) (hu : U64 m9) :
    Src w9 sb ao len cap ∧ w.grownBy w9 (some sb) := by
  have hg := grown_trans hA.2.2.2 (grown_trans h7.grown (grown_trans h8.grown h9.grown))
  have ho : ∀ j, j ≠ 2 → w9.cell? ⟨sb, j, none⟩ = wA.cell? ⟨sb, j, none⟩ := fun j hj => (h9.other j hj).trans ((h8.other j hj).trans (h7.other j hj))
  refine ⟨⟨?_, ⟨p, hp, ?_⟩, ⟨m9, hu, h9.same⟩, ?_, ?_, ?_⟩, hg⟩
  · rw [ho 0 (by omega), hA.2.1 0 (by omega)]; exact c0
  · rw [ho 1 (by omega)]; exact hA.1
  · obtain ⟨k, hk, e⟩ := c3
    exact ⟨k, hk, by rw [ho 3 (by omega), hA.2.1 3 (by omega)]; exact e⟩
  · intro j
    rw [h9.mark, h8.mark, h7.mark, hA.2.2.1]; exact fr j
  · intro i hi
    obtain ⟨b, off, z, e, hb, hc, hz⟩ := row i hi
    exact ⟨b, off, z, e, hb, hg.cell hc (by simp; omega), hz⟩

theorem xor64 (a b : Int) : ∃ m : Nat, U64 m ∧ bits .xor .u64 a b = (m : Int) := by
  have h0 := bits_lo_u64 .xor a b
  have h1 := bits_hi_u64 .xor a b
  exact ⟨(bits .xor .u64 a b).toNat, by unfold U64; omega, by omega⟩

set_option maxRecDepth 100000 in
set_option maxHeartbeats 4000000 in
theorem n_any (sb : Nat) (ao : Option Addr) (len cap : Nat) (most : Int) (w : World) (hm : 1 < most) (hm2 : most ≤ 1099511627776) (hl : len ≤ 1048576) (h : Src w sb ao len cap) :
    Calls Tryz.prog 34 #[.pointer (some ⟨sb, 0, none⟩), .int .i64 most] w fun e w' => ∃ r : Int, e = .returned (.int .i64 r) ∧ 0 ≤ r ∧ r < most ∧ Src w' sb ao len cap ∧ w.grownBy w' (some sb) := by
  obtain ⟨c0, ⟨p, hp, c1⟩, ⟨mix, hmix, c2⟩, c3, fr, row⟩ := h
  have HROW := hide row
  have HC3 := hide c3
  clear row c3
  by_cases ho : p < len
  · obtain ⟨b, off, z, rfl, hbs, cz, hz0, hz1⟩ := HROW.out p ho
    go_enter Tryz.func34, Tryz.ntmps34
    go_wp2
    go_region
    go_wp2
    go_region
    go_wp2
    have hT := ((turned w sb 1 (.int .i64 ((p : Int) + 1)) _ c1).drew).drew
    generalize ((w.setCell ⟨sb, 1, none⟩ (.int .i64 ((p : Int) + 1))).drew).drew = wA at *
    have k2 : wA.cell? ⟨sb, 2, none⟩ = some (.int .u64 (mix : Int)) := (hT.other 2 (by omega)).trans c2
    have kf : ∀ j, wA.frozen? ⟨sb, j, none⟩ = false := fun j => (hT.mark j).trans (fr j)
    have HT := hide hT
    have HF := hide (And.intro c0 (And.intro c1 fr))
    clear c0 c1 c2 fr hT cz
    go_region
    go_wp2
    obtain ⟨m7, hu7, e7⟩ := xor64 (mix : Int) (IntKind.u64.wrap ((mix : Int) * 8192))
    rw [e7]
    have hT7 := (turned wA sb 2 (.int .u64 (m7 : Int)) _ k2).drew
    generalize (wA.setCell ⟨sb, 2, none⟩ (.int .u64 (m7 : Int))).drew = w7 at *
    have k7 := hT7.same
    have f7 : ∀ j, w7.frozen? ⟨sb, j, none⟩ = false := fun j => (hT7.mark j).trans (kf j)
    have HT7 := hide hT7
    clear k2 kf hT7 e7
    go_region
    go_wp2
    obtain ⟨m8, hu8, e8⟩ := xor64 (m7 : Int) ((m7 : Int) / 128)
    rw [e8]
    have hT8 := (turned w7 sb 2 (.int .u64 (m8 : Int)) _ k7).drew
    generalize (w7.setCell ⟨sb, 2, none⟩ (.int .u64 (m8 : Int))).drew = w8 at *
    have k8 := hT8.same
    have f8 : ∀ j, w8.frozen? ⟨sb, j, none⟩ = false := fun j => (hT8.mark j).trans (f7 j)
    have HT8 := hide hT8
    clear k7 f7 hT8 e8
    go_region
    go_wp2
    obtain ⟨m9, hu9, e9⟩ := xor64 (m8 : Int) (IntKind.u64.wrap ((m8 : Int) * 131072))
    rw [e9]
    have hT9 := (turned w8 sb 2 (.int .u64 (m9 : Int)) _ k8).drew
    generalize (w8.setCell ⟨sb, 2, none⟩ (.int .u64 (m9 : Int))).drew = w9 at *
    have HT9 := hide hT9
    clear k8 f8 hT9 e9
    go_ret
    have hfin := src_of (p := p + 1) (by omega) HROW.out HC3.out HF.out.1 HF.out.2.2 ⟨by rw [show ((p + 1 : Nat) : Int) = (p : Int) + 1 from by omega]; exact HT.out.same, HT.out.other, HT.out.mark, HT.out.grown⟩ HT7.out HT8.out HT9.out hu9
    have hr := rem_range (wrap_u64_nonneg (z + (m9 : Int) / 1048576)) hm hm2
    exact ⟨_, rfl, hr.1, hr.2, hfin.1, hfin.2⟩
  · go_enter Tryz.func34, Tryz.ntmps34
    go_wp2
    go_region
    go_wp2
    generalize hwA : w.drew = wA at *
    have k2 : wA.cell? ⟨sb, 2, none⟩ = some (.int .u64 (mix : Int)) := by rw [← hwA]; exact c2
    have kf : ∀ j, wA.frozen? ⟨sb, j, none⟩ = false := fun j => by rw [← hwA]; exact fr j
    have HA : Hid (wA.cell? ⟨sb, 1, none⟩ = some (.int .i64 (p : Int)) ∧ (∀ j, j ≠ 1 → wA.cell? ⟨sb, j, none⟩ = w.cell? ⟨sb, j, none⟩) ∧ (∀ j, wA.frozen? ⟨sb, j, none⟩ = w.frozen? ⟨sb, j, none⟩) ∧ w.grownBy wA (some sb)) := by
      rw [← hwA]; exact ⟨c1, fun _ _ => rfl, fun _ => rfl, ⟨rfl, rfl, rfl, Nat.le_refl _, fun _ _ _ => rfl⟩⟩
    have HF := hide (And.intro c0 (And.intro c1 fr))
    clear c0 c1 c2 fr hwA
    go_region
    go_wp2
    obtain ⟨m7, hu7, e7⟩ := xor64 (mix : Int) (IntKind.u64.wrap ((mix : Int) * 8192))
    rw [e7]
    have hT7 := (turned wA sb 2 (.int .u64 (m7 : Int)) _ k2).drew
    generalize (wA.setCell ⟨sb, 2, none⟩ (.int .u64 (m7 : Int))).drew = w7 at *
    have k7 := hT7.same
    have f7 : ∀ j, w7.frozen? ⟨sb, j, none⟩ = false := fun j => (hT7.mark j).trans (kf j)
    have HT7 := hide hT7
    clear k2 kf hT7 e7
    go_region
    go_wp2
    obtain ⟨m8, hu8, e8⟩ := xor64 (m7 : Int) ((m7 : Int) / 128)
    rw [e8]
    have hT8 := (turned w7 sb 2 (.int .u64 (m8 : Int)) _ k7).drew
    generalize (w7.setCell ⟨sb, 2, none⟩ (.int .u64 (m8 : Int))).drew = w8 at *
    have k8 := hT8.same
    have f8 : ∀ j, w8.frozen? ⟨sb, j, none⟩ = false := fun j => (hT8.mark j).trans (f7 j)
    have HT8 := hide hT8
    clear k7 f7 hT8 e8
    go_region
    go_wp2
    obtain ⟨m9, hu9, e9⟩ := xor64 (m8 : Int) (IntKind.u64.wrap ((m8 : Int) * 131072))
    rw [e9]
    have hT9 := (turned w8 sb 2 (.int .u64 (m9 : Int)) _ k8).drew
    generalize (w8.setCell ⟨sb, 2, none⟩ (.int .u64 (m9 : Int))).drew = w9 at *
    have HT9 := hide hT9
    clear k8 f8 hT9 e9
    go_ret
    have hfin := src_of (p := p) hp HROW.out HC3.out HF.out.1 HF.out.2.2 HA.out HT7.out HT8.out HT9.out hu9
    have hr := rem_range (wrap_u64_nonneg ((m9 : Int) / 1048576)) hm hm2
    exact ⟨_, rfl, hr.1, hr.2, hfin.1, hfin.2⟩

theorem n_one (sb : Nat) (ao : Option Addr) (len cap : Nat) (most : Int) (w : World) (hm : 1 < most) (hm2 : most ≤ 1099511627776) (hl : len ≤ 1048576) (h : Src w sb ao len cap) :
    Calls Tryz.prog 33 #[.pointer (some ⟨sb, 0, none⟩), .int .i64 most] w fun e w' => ∃ b : Bool, e = .returned (.bool b) ∧ Src w' sb ao len cap ∧ w.grownBy w' (some sb) := by
  have HN : Hid (∀ w, Src w sb ao len cap → Calls Tryz.prog 34 #[.pointer (some ⟨sb, 0, none⟩), .int .i64 most] w fun e w' => ∃ r : Int, e = .returned (.int .i64 r) ∧ 0 ≤ r ∧ r < most ∧ Src w' sb ao len cap ∧ w.grownBy w' (some sb)) := fun w h => n_any sb ao len cap most w hm hm2 hl h
  have HH := hide h
  clear h hm hm2 hl
  go_enter Tryz.func33, Tryz.ntmps33
  go_wp2_with fail
  refine (HN.out _ HH.out).mono ?_
  rintro e w1 ⟨r, rfl, h0, h1, hs, hg⟩
  have H1 := hide (And.intro hs hg)
  clear hs hg h0 h1
  go_wp2
  go_ret
  exact ⟨_, rfl, H1.out.1, H1.out.2⟩

/-- Bytes that came in. -/
def ArgRow (w : World) (ao : Option Addr) (len : Nat) : Prop := ∀ i, i < len → ∃ b off z, ao = some ⟨b, off, none⟩ ∧ w.cell? ⟨b, off + i, none⟩ = some (.int .u8 z) ∧ 0 ≤ z ∧ z < 256
theorem ArgRow.below {w w' : World} {ao : Option Addr} {len : Nat} (h : ArgRow w ao len) (hb : Below w.heap.size w w') : ArgRow w' ao len := fun i hi => by
  obtain ⟨b, off, z, e, hc, hz⟩ := h i hi
  exact ⟨b, off, z, e, (hb.cell (p := ⟨b, off + i, none⟩) (World.block_lt_of_cell? w _ hc)).trans hc, hz⟩

theorem Src.mixed {w w' : World} {sb : Nat} {ao : Option Addr} {len cap m : Nat} (h : Src w sb ao len cap) (ht : Turned w w' sb 2 (.int .u64 (m : Int))) (hm : U64 m) : Src w' sb ao len cap := by
  obtain ⟨p, hp, c1⟩ := h.c1
  obtain ⟨k, hk, c3⟩ := h.c3
  refine ⟨(ht.other 0 (by omega)).trans h.c0, ⟨p, hp, (ht.other 1 (by omega)).trans c1⟩, ⟨m, hm, ht.same⟩, ⟨k, hk, (ht.other 3 (by omega)).trans c3⟩, fun j => (ht.mark j).trans (h.fr j), fun i hi => ?_⟩
  obtain ⟨b, off, z, e, hb, hc, hz⟩ := h.row i hi
  exact ⟨b, off, z, e, hb, ht.grown.cell hc (by simp; omega), hz⟩
theorem Src.sized {w w' : World} {sb : Nat} {ao : Option Addr} {len cap k : Nat} (h : Src w sb ao len cap) (ht : Turned w w' sb 3 (.int .i64 (k : Int))) (hk : k ≤ 12) : Src w' sb ao len cap := by
  obtain ⟨p, hp, c1⟩ := h.c1
  obtain ⟨m, hm, c2⟩ := h.c2
  refine ⟨(ht.other 0 (by omega)).trans h.c0, ⟨p, hp, (ht.other 1 (by omega)).trans c1⟩, ⟨m, hm, (ht.other 2 (by omega)).trans c2⟩, ⟨k, hk, ht.same⟩, fun j => (ht.mark j).trans (h.fr j), fun i hi => ?_⟩
  obtain ⟨b, off, z, e, hb, hc, hz⟩ := h.row i hi
  exact ⟨b, off, z, e, hb, ht.grown.cell hc (by simp; omega), hz⟩
theorem wrap64_nat (x : Int) : ∃ m : Nat, U64 m ∧ IntKind.u64.wrap x = (m : Int) := by
  rw [IntKind.wrap_u64]
  exact ⟨(x % 18446744073709551616).toNat, by unfold U64; omega, by omega⟩
theorem sized_big {w w1 w2 : World} {sb : Nat} {ao : Option Addr} {len cap : Nat} {v : Value} (h : Src w sb ao len cap) (h1 : Turned w w1 sb 3 v) (h2 : Turned w1 w2 sb 3 (.int .i64 12)) : Src w2 sb ao len cap :=
  h.sized (k := 12) ⟨h2.same, fun j hj => (h2.other j hj).trans (h1.other j hj), fun j => (h2.mark j).trans (h1.mark j), grown_trans h1.grown h2.grown⟩ (by omega)

set_option maxRecDepth 100000 in
set_option maxHeartbeats 4000000 in
theorem source_any (ao : Option Addr) (len cap : Nat) (w : World) (hl : len ≤ 1048576) (hr : ArgRow w ao len) :
    Calls Tryz.prog 27 #[.slice ao len cap] w fun e w' => e = .returned (.pointer (some ⟨w.heap.size, 0, none⟩)) ∧ Src w' w.heap.size ao len cap ∧ Below w.heap.size w w' := by
  have HR := hide hr
  clear hr
  go_enter Tryz.func27, Tryz.ntmps27
  go_wp2
  go_loopw [4] (fun i wr => ∃ k : Nat, k ≤ len ∧ k ≤ 64 ∧ i = .int .i64 k ∧ Src wr w.heap.size ao len cap ∧ Below w.heap.size w wr) (fun i _ => 64 - (intOf i).toNat)
  case atStart =>
    refine ⟨0, by omega, by omega, rfl, ⟨by simp, ⟨0, by omega, by simp⟩, ⟨88172645463325252, by unfold U64; omega, by simp⟩, ⟨0, by omega, by simp⟩, fun j => by simp [World.frozen?_alloc_at], fun i hi => ?_⟩, (Below.refl _ _).alloc (Nat.le_refl _) _⟩
    obtain ⟨b, off, z, e, hc, hz⟩ := HR.out i hi
    have hbl := World.block_lt_of_cell? w _ hc
    exact ⟨b, off, z, e, hbl, (World.cell?_alloc_lt w _ ⟨b, off + i, none⟩ hbl).trans hc, hz⟩
  case round =>
    obtain ⟨k, hk, hk64, rfl, hs, hbel⟩ := hrel
    have HSrc := hide hs
    obtain ⟨c0, ⟨p, hp, c1⟩, ⟨mix, hmix, c2⟩, ⟨q, hq, c3⟩, fr, row⟩ := hs
    have HROW := hide row
    have HB := hide hbel
    clear row hbel
    by_cases hlt : k < len ∧ k < 64
    · obtain ⟨h1, h2⟩ := hlt
      obtain ⟨b, off, z, rfl, hbs, cz, hz0, hz1⟩ := HROW.out k h1
      go_wp2
      go_region
      go_wp2
      go_roundw
      case rel =>
        obtain ⟨m, hu, e⟩ := wrap64_nat (bits .xor .u64 (mix : Int) z * 1099511628211)
        rw [e]
        have hT := (turned wr w.heap.size 2 (.int .u64 (m : Int)) _ c2).drew
        exact ⟨k + 1, by omega, by omega, by go_num, HSrc.out.mixed hT hu, (HB.out.setCell (Nat.le_refl _) _).drew⟩
      case measure => simp [intOf]; omega
    · have hcase : (¬ k < len) ∨ (k < len ∧ ¬ k < 64) := by omega
      clear hlt
      have hT1 := turned wr w.heap.size 3 (.int .i64 ((len : Int) / 20)) _ c3
      have HT1 := hide hT1
      by_cases h12 : 12 < (len : Int) / 20
      · rcases hcase with h1 | ⟨h1, h2⟩
        · exact absurd h12 (by omega)
        · have HT2 := hide (turned (wr.setCell ⟨w.heap.size, 3, none⟩ (.int .i64 ((len : Int) / 20))) w.heap.size 3 (.int .i64 12) _ hT1.same)
          clear hT1
          go_wp2
          go_ret
          exact ⟨rfl, sized_big HSrc.out HT1.out HT2.out, (HB.out.setCell (Nat.le_refl _) _).setCell (Nat.le_refl _) _⟩
      · rcases hcase with h1 | ⟨h1, h2⟩
        all_goals
          clear hT1
          go_wp2
          go_ret
          exact ⟨rfl, HSrc.out.sized (k := len / 20) (by rw [show ((len / 20 : Nat) : Int) = (len : Int) / 20 from by omega]; exact HT1.out) (by omega), HB.out.setCell (Nat.le_refl _) _⟩

end Go.Proofs.YtonafcifolddjaaGreatDoor
