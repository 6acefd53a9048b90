/- The draws: a text out of some, and a text spoiled. -/
import Derived.Test.YtonafcifolddjaaGreatDoorQB02
import Derived.Test.YtonafcifolddjaaGreatDoorQB04
import Derived.Test.YtonafcifolddjaaGreatDoorQB08
import Derived.Deep.QuietTactic
import Derived.BigQuiet
import Derived.Test.YtonafcifolddjaaGreatDoorQB10
namespace Go.Proofs.YtonafcifolddjaaGreatDoor
open Go.RowKit
set_option linter.unusedSimpArgs false
set_option linter.unusedVariables false

theorem pick_any (sb : Nat) (ao : Option Addr) (len cap : Nat) (ls : List ByteArray) (v : Value) (w : World) (hl : len ≤ 1048576) (h2 : 2 ≤ ls.length) (h9 : ls.length ≤ 1000) (hv : TextsAt w v ls) (hd : sb ∉ vblocks v) (h : Src w sb ao len cap) :
    Calls Tryz.prog 35 #[.pointer (some ⟨sb, 0, none⟩), v] w fun e w' => ∃ x, x ∈ ls ∧ e = .returned (.string x) ∧ Src w' sb ao len cap ∧ w.grownBy w' (some sb) := by
  obtain ⟨ao', cap', rfl, hc, hm, hr⟩ := hv
  obtain ⟨b, o, rfl, hcell⟩ := hr (by intro e; rw [e] at h2; simp at h2)
  have HCELL := hide hcell
  have hbs : b ≠ sb := fun e => hd (by simp [vblocks, cellBlocks, e])
  have HN := hide (n_any sb ao len cap (ls.length : Int) w (by omega) (by omega) hl h)
  clear hcell hd h hr
  go_enter Tryz.func35, Tryz.ntmps35
  go_wp2_with (go_at_call 34; refine HN.out.mono ?_; rintro e w1 ⟨r, rfl, hr0, hr1, hs, hg⟩; obtain ⟨k, rfl⟩ : ∃ k : Nat, r = (k : Int) := ⟨r.toNat, by omega⟩; have hk : k < ls.length := (by omega); have c0 : w1.cell? ⟨b, o + k, none⟩ = some (.string ls[k]) := (Apart.grown hg).cell' (HCELL.out k hk) (by simp; exact hbs); have H1 := hide (And.intro hs hg); obtain ⟨X, hX⟩ : ∃ x, ls[k] = x := ⟨_, rfl⟩; have HX := hide (show X ∈ ls by rw [← hX]; exact List.getElem_mem hk); rw [hX] at c0; clear hs hg hX)
  go_ret
  exact ⟨X, HX.out, rfl, H1.out.1, H1.out.2⟩
def spS : ByteArray := ⟨#[32, 10, 48, 97, 45, 110, 44, 58, 93, 255, 40, 120, 126, 49, 128, 225, 59]⟩
theorem sp_at (k : Nat) (hk : k < 17) : ∃ z : Nat, z < 256 ∧ ∀ W : World, (Instr.index 9 (.string ⟨#[32, 10, 48, 97, 45, 110, 44, 58, 93, 255, 40, 120, 126, 49, 128, 225, 59]⟩) (.int .i64 (k : Int))).run Tryz.prog W = .ok (.int .u8 (z : Int)) W := by
  match k, hk with
  | 0, _ => exact ⟨32, by omega, fun W => by kernel_rfl⟩
  | 1, _ => exact ⟨10, by omega, fun W => by kernel_rfl⟩
  | 2, _ => exact ⟨48, by omega, fun W => by kernel_rfl⟩
  | 3, _ => exact ⟨97, by omega, fun W => by kernel_rfl⟩
  | 4, _ => exact ⟨45, by omega, fun W => by kernel_rfl⟩
  | 5, _ => exact ⟨110, by omega, fun W => by kernel_rfl⟩
  | 6, _ => exact ⟨44, by omega, fun W => by kernel_rfl⟩
  | 7, _ => exact ⟨58, by omega, fun W => by kernel_rfl⟩
  | 8, _ => exact ⟨93, by omega, fun W => by kernel_rfl⟩
  | 9, _ => exact ⟨255, by omega, fun W => by kernel_rfl⟩
  | 10, _ => exact ⟨40, by omega, fun W => by kernel_rfl⟩
  | 11, _ => exact ⟨120, by omega, fun W => by kernel_rfl⟩
  | 12, _ => exact ⟨126, by omega, fun W => by kernel_rfl⟩
  | 13, _ => exact ⟨49, by omega, fun W => by kernel_rfl⟩
  | 14, _ => exact ⟨128, by omega, fun W => by kernel_rfl⟩
  | 15, _ => exact ⟨225, by omega, fun W => by kernel_rfl⟩
  | 16, _ => exact ⟨59, by omega, fun W => by kernel_rfl⟩
  | k + 17, h => omega
theorem conv1 (z : Nat) (hz : z < 256) (W : World) :
    (convert 22 9 (.slice (some ⟨W.heap.size, 0, none⟩) 1 1)).run Tryz.prog (W.alloc (.cells #[.int .u8 (z : Int)] 5)) = .ok (.string ⟨[UInt8.ofNat z].toArray⟩) (W.alloc (.cells #[.int .u8 (z : Int)] 5)) := by
  refine run_convert_bytes_back (P := Tryz.prog) _ 22 9 5 ⟨W.heap.size, 0, none⟩ 1 [UInt8.ofNat z] Tryz.underlying22 Tryz.underlying5 Tryz.underlying9 (fun i hi => ?_)
  match i, hi with
  | 0, _ =>
    have e : ((UInt8.ofNat z).toNat : Int) = (z : Int) := by
      rw [UInt8.toNat_ofNat']
      omega
    simp [Addr.add, e]
    omega
theorem n_pos (sb : Nat) (ao : Option Addr) (len cap : Nat) (most : Int) (w : World) (hm : 1 ≤ most) (hm2 : most ≤ 1099511627776) (hl : len ≤ 1048576) (h : Src w sb ao len cap) :
    Calls Tryz.prog 34 #[.pointer (some ⟨sb, 0, none⟩), .int .i64 most] w fun e w' => ∃ r : Int, e = .returned (.int .i64 r) ∧ 0 ≤ r ∧ r < most ∧ Src w' sb ao len cap ∧ w.grownBy w' (some sb) := by
  by_cases h1 : most = 1
  · subst h1
    have HS := hide h
    clear h hm hm2 hl
    go_enter Tryz.func34, Tryz.ntmps34
    go_wp2_with fail
    go_ret
    exact ⟨0, rfl, by omega, by omega, HS.out, grown_refl _ _⟩
  · exact n_any sb ao len cap most w (by omega) hm2 hl h
/-- a text is spoiled -/
def SpAns (w w' : World) (e : Ending) (t : ByteArray) (sb : Nat) (ao : Option Addr) (len cap : Nat) : Prop := ∃ u, e = .returned (.string u) ∧ u.size ≤ t.size + 1 ∧ Src w' sb ao len cap ∧ w.grownBy w' (some sb)
theorem src_end {w w' : World} {sb : Nat} {ao : Option Addr} {len cap : Nat} (h : Src w' sb ao len cap) (hg : w.grownBy w' (some sb)) (n : Nat) : Src (w'.drewN n) sb ao len cap ∧ w.grownBy (w'.drewN n) (some sb) := ⟨⟨h.c0, h.c1, h.c2, h.c3, h.fr, h.row⟩, ⟨hg.os, hg.tape, hg.output, hg.size, hg.block⟩⟩
theorem src_alloc {w : World} {sb : Nat} {ao : Option Addr} {len cap : Nat} (h : Src w sb ao len cap) (o : Obj) : Src (w.alloc o) sb ao len cap := h.kept (grown_alloc w o none) (fun k hk => by cases hk)
set_option maxRecDepth 100000 in
set_option maxHeartbeats 2000000 in
theorem spoil_any (sb : Nat) (ao : Option Addr) (len cap : Nat) (t : ByteArray) (w : World) (hl : len ≤ 1048576) (ht : t.size ≤ 8000) (h : Src w sb ao len cap) :
    Calls Tryz.prog 47 #[.pointer (some ⟨sb, 0, none⟩), .string t] w fun e w' => SpAns w w' e t sb ao len cap := by
  have HN := hide (n_pos sb ao len cap ((t.size : Int) + 1) w (by omega) (by omega) hl h)
  have HN2 : Hid (∀ w1, Src w1 sb ao len cap → Calls Tryz.prog 34 #[.pointer (some ⟨sb, 0, none⟩), .int .i64 17] w1 fun e w' => ∃ r : Int, e = .returned (.int .i64 r) ∧ 0 ≤ r ∧ r < 17 ∧ Src w' sb ao len cap ∧ w1.grownBy w' (some sb)) := hide (fun w1 h1 => n_any sb ao len cap 17 w1 (by omega) (by omega) hl h1)
  have HO3 : Hid (∀ w1, Src w1 sb ao len cap → Calls Tryz.prog 33 #[.pointer (some ⟨sb, 0, none⟩), .int .i64 3] w1 fun e w' => ∃ b : Bool, e = .returned (.bool b) ∧ Src w' sb ao len cap ∧ w1.grownBy w' (some sb)) := hide (fun w1 hs => n_one sb ao len cap 3 w1 (by omega) (by omega) hl hs)
  have HO2 : Hid (∀ w1, Src w1 sb ao len cap → Calls Tryz.prog 33 #[.pointer (some ⟨sb, 0, none⟩), .int .i64 2] w1 fun e w' => ∃ b : Bool, e = .returned (.bool b) ∧ Src w' sb ao len cap ∧ w1.grownBy w' (some sb)) := hide (fun w1 hs => n_one sb ao len cap 2 w1 (by omega) (by omega) hl hs)
  clear h hl
  go_enter Tryz.func47, Tryz.ntmps47
  go_wp2_with (first
    | (go_at_call 34; (fail_if_success (have := HS1)); refine HN.out.mono ?_; rintro e w1 ⟨r, rfl, hr0, hr1, hs, hg⟩; obtain ⟨k, rfl⟩ : ∃ k : Nat, r = (k : Int) := ⟨r.toNat, by omega⟩; have hk : k ≤ t.size := (by omega); have HS1 := hide hs; have HG1 := hide hg; clear hs hg hr0 hr1)
    | (go_at_call 34; have HM1 := HS1; refine (HN2.out _ HS1.out).mono ?_; rintro e w2 ⟨r2, rfl, hq0, hq1, hs, hg⟩; obtain ⟨k2, rfl⟩ : ∃ k : Nat, r2 = (k : Int) := ⟨r2.toNat, by omega⟩; obtain ⟨z, hz, hidx⟩ := sp_at k2 (by omega); have hconv := conv1 z hz w2; obtain ⟨C, hC⟩ : ∃ C, (⟨[UInt8.ofNat z].toArray⟩ : ByteArray) = C := ⟨_, rfl⟩; have HC : Hid (C.size = 1) := hide (by rw [← hC]; rfl); rw [hC] at hconv; have HS2 := hide (src_alloc hs (.cells #[.int .u8 (z : Int)] 5)); have HG2 := hide (grown_trans HG1.out (grown_trans hg (grown_alloc w2 (.cells #[.int .u8 (z : Int)] 5) _))); clear hs hg hC; by_cases hkt : k = t.size)
    | (go_at_call 33; (fail_if_success (have := HS3)); have HM2 := HS2; refine (HO3.out _ HS2.out).mono ?_; rintro e w3 ⟨b3, rfl, hs, hg⟩; have HS3 := hide hs; have HG3 := hide (grown_trans HG2.out hg); clear hs hg; cases b3)
    | (go_at_call 33; have HM3 := HS3; refine (HO2.out _ HS3.out).mono ?_; rintro e w4 ⟨b4, rfl, hs, hg⟩; have HS4 := hide hs; have HG4 := hide (grown_trans HG3.out hg); clear hs hg; cases b4))
  all_goals
    have hc1 := HC.out
    have hs1 : (t.extract 0 k).size = k := by rw [ByteArray.size_extract]; omega
    have hs2 : (t.extract k t.size).size = t.size - k := by rw [ByteArray.size_extract]; omega
    have hs3 : (t.extract (k + 1) t.size).size = t.size - (k + 1) := by rw [ByteArray.size_extract]; omega
    have q1 : ¬ 9223372036854775807 < (t.extract 0 k).size + C.size := by omega
    have q2 : ¬ 9223372036854775807 < (t.extract 0 k).size + C.size + (t.extract k t.size).size := by omega
    have q3 : ¬ 9223372036854775807 < (t.extract 0 k).size + (t.extract (k + 1) t.size).size := by omega
    have q4 : ¬ 9223372036854775807 < (t.extract 0 k).size + C.size + (t.extract (k + 1) t.size).size := by omega
    go_quiet (fail)
    go_wp2_with fail
    go_ret
    refine ⟨_, rfl, by first | (rw [ByteArray.size_append, ByteArray.size_append, hs1, hs2, hc1]; omega) | (rw [ByteArray.size_append, ByteArray.size_append, hs1, hs3, hc1]; omega) | (rw [ByteArray.size_append, hs1, hs3]; omega) | (rw [ByteArray.size_append, hc1]; omega), ?_⟩
    first
      | exact src_end HS4.out HG4.out _
      | exact src_end HS3.out HG3.out _
      | exact src_end HS2.out HG2.out _
end Go.Proofs.YtonafcifolddjaaGreatDoor
/- spec.GetNum, walked. -/
namespace Go.Proofs.YtonafcifolddjaaGreatDoor
open Go.RowKit
theorem sacc_eq {s : ByteArray} {A k : Nat} (hk : k ≤ 9) (hb : A + k < s.size) (h9 : ¬ (k = 9 ∧ 1 < bAt s (A + k))) :
    IntKind.u64.wrap ((uTo s A k : Int) + IntKind.u64.wrap ((s[A + k].toNat : Int) % 128 * 2 ^ (7 * k))) = (uTo s A (k + 1) : Int) := by
  have hl := (uTo_u64 (s := s) (a := A) hk h9).lt
  rw [uTo] at hl
  have e2 : (s[A + k].toNat : Int) % 128 * 2 ^ (7 * k) = ((bAt s (A + k) % 128 * 128 ^ k : Nat) : Int) := by
    rw [← pow7, Int.natCast_mul, Int.natCast_pow, bAt_lt hb]; rfl
  rw [e2, IntKind.wrap_u64, IntKind.wrap_u64, Int.emod_eq_of_lt (by omega) (by omega), Int.emod_eq_of_lt (by omega) (by omega)]
  rfl

theorem agg_ret {r : Int × Int × Int} {x y z : Int} (h : r = (x, y, z)) : Ending.returned (.agg #[.int .i64 x, .int .i64 y, .int .i64 z]) = .returned (.agg #[.int .i64 r.1, .int .i64 r.2.1, .int .i64 r.2.2]) := by rw [h]

theorem spec_odd {U A k : Nat} {r : Int × Int × Int} (hU : U64b U) (hp : ((U : Int) % 2 == 1) = true) (h : r = (unfoldZ U, ((A + k + 1 : Nat) : Int), 0)) : r = (wrap64 (wrap64 (-wrap64 (IntKind.u64.wrap ((U : Int) / 2))) - 1), (A : Int) + (k : Int) + 1, 0) := by
  have hl := hU.lt
  have hp' : (U : Int) % 2 = 1 := by simpa using hp
  have e : unfoldZ U = wrap64 (wrap64 (-wrap64 (IntKind.u64.wrap ((U : Int) / 2))) - 1) := by
    rw [unfoldZ, if_pos (by omega), IntKind.wrap_u64]
    unfold wrap64
    omega
  rw [h, e]
  rfl
theorem spec_even {U A k : Nat} {r : Int × Int × Int} (hU : U64b U) (hp : ((U : Int) % 2 == 1) = false) (h : r = (unfoldZ U, ((A + k + 1 : Nat) : Int), 0)) : r = (wrap64 (IntKind.u64.wrap ((U : Int) / 2)), (A : Int) + (k : Int) + 1, 0) := by
  have hl := hU.lt
  have hp' : ¬ (U : Int) % 2 = 1 := by simpa using hp
  have e : unfoldZ U = wrap64 (IntKind.u64.wrap ((U : Int) / 2)) := by
    rw [unfoldZ, if_neg (by omega), IntKind.wrap_u64]
    unfold wrap64
    omega
  rw [h, e]
  rfl

set_option maxRecDepth 100000 in
set_option maxHeartbeats 4000000 in
theorem spec_get_at (s : ByteArray) (A : Nat) (w : World) (hs : s.size ≤ 8000) (hA : (A : Int) ≤ 9223372036854775807) :
    Calls Tryz.prog 86 #[.string s, .int .i64 (A : Int)] w fun e w' => e = .returned (.agg #[.int .i64 (getN s (A : Int)).1, .int .i64 (getN s (A : Int)).2.1, .int .i64 (getN s (A : Int)).2.2]) ∧ Below w.heap.size w w' := by
  have HN : Hid (getN s (A : Int) = getR s A 10 0) := by show _ = _; rw [getN, if_neg (by omega), if_neg (by omega), Int.toNat_natCast]
  go_enter Tryz.func86, Tryz.ntmps86
  go_wp2
  go_loop [5, 6, 7, 8] (fun x i _ _ => ∃ k : Nat, k ≤ 9 ∧ i = .int .i64 k ∧ x = .int .u64 (uTo s A k : Int) ∧ getN s (A : Int) = getR s A (10 - k) k) (fun _ i _ _ => 20 - (intOf i).toNat)
  case atStart => exact ⟨0, by omega, rfl, rfl, HN.out⟩
  case round =>
    obtain ⟨k, hk, rfl, rfl, hN⟩ := hrel
    have HN' := hide hN
    clear hN HN
    by_cases hlt : s.size ≤ A + k
    · have HZ : Hid (getN s (A : Int) = (0, 0, 4)) := by
        show _ = _
        rw [HN'.out, show 10 - k = (9 - k) + 1 from by omega, getR_short (by omega)]
      go_wp2
      exact bodyPost_ret (v := .agg #[.int .i64 0, .int .i64 0, .int .i64 4]) (by simp [results, Tryz.results86, go_sem]) rfl ⟨agg_ret HZ.out, (Below.refl _ _).alloc (Nat.le_refl _) _⟩
    · have hb : A + k < s.size := by omega
      have hB := hide (bAt_lt hb)
      have h256 : (s[A + k].toNat : Int) < 256 := by have := s[A + k].toNat_lt; omega
      by_cases h9 : k = 9 ∧ 1 < s[A + k].toNat
      · have HZ : Hid (getN s (A : Int) = (0, 0, 3)) := by
          show _ = _
          rw [HN'.out, show 10 - k = (9 - k) + 1 from by omega, getR_big (by omega) h9.1 (by rw [hB.out]; exact h9.2)]
        have g : ((k : Int) == 9) = true := beq_iff_eq.2 (by omega)
        have g2 := h9.2
        clear h9
        go_wp2
        exact bodyPost_ret (v := .agg #[.int .i64 0, .int .i64 0, .int .i64 3]) (by simp [results, Tryz.results86, go_sem]) rfl ⟨agg_ret HZ.out, (Below.refl _ _).alloc (Nat.le_refl _) _⟩
      · have hacc := sacc_eq hk hb (by rw [hB.out]; exact h9)
        have hU := uTo_u64 (s := s) (a := A) hk (by rw [hB.out]; exact h9)
        by_cases h128 : s[A + k].toNat < 128
        · have HL := hide (show getN s (A : Int) = if bAt s (A + k) = 0 ∧ 0 < k then (0, 0, 3) else (unfoldZ (uTo s A (k + 1)), ((A + k + 1 : Nat) : Int), 0) by rw [HN'.out, show 10 - k = (9 - k) + 1 from by omega, getR_last (by omega) (by rw [hB.out]; exact h9) (by rw [hB.out]; exact h128)])
          rw [hB.out] at HL
          clear HN'
          have hcase : (((k : Int) == 9) = true ∧ decide (1 < (s[A + k].toNat : Int)) = false) ∨ (((k : Int) == 9) = false ∧ True) := by
            by_cases e9 : k = 9
            · exact .inl ⟨beq_iff_eq.2 (by omega), decide_eq_false (by omega)⟩
            · exact .inr ⟨beq_eq_false_iff_ne.2 (by omega), trivial⟩
          clear h9
          by_cases hz : s[A + k].toNat = 0 ∧ 0 < k
          · have HZ : Hid (getN s (A : Int) = (0, 0, 3)) := by show _ = _; rw [HL.out, if_pos hz]
            have gz : ((s[A + k].toNat : Int) == 0) = true := beq_iff_eq.2 (by omega)
            have gk : 0 < k := hz.2
            clear hz HL hacc hU
            rcases hcase with ⟨gA, g1⟩ | ⟨gA, g1⟩
            all_goals
              go_wp2
              exact bodyPost_ret (v := .agg #[.int .i64 0, .int .i64 0, .int .i64 3]) (by simp [results, Tryz.results86, go_sem]) rfl ⟨agg_ret HZ.out, (Below.refl _ _).alloc (Nat.le_refl _) _⟩
          · have HZ : Hid (getN s (A : Int) = (unfoldZ (uTo s A (k + 1)), ((A + k + 1 : Nat) : Int), 0)) := by show _ = _; rw [HL.out, if_neg hz]
            clear HL
            have hcase2 : (((s[A + k].toNat : Int) == 0) = true ∧ decide ((0 : Int) < (k : Int)) = false) ∨ (((s[A + k].toNat : Int) == 0) = false ∧ True) := by
              by_cases e0 : s[A + k].toNat = 0
              · exact .inl ⟨beq_iff_eq.2 (by omega), decide_eq_false (by omega)⟩
              · exact .inr ⟨beq_eq_false_iff_ne.2 (by omega), trivial⟩
            clear hz
            generalize uTo s A (k + 1) = U at *
            rcases hcase with ⟨gA, g1⟩ | ⟨gA, g1⟩
            all_goals
              rcases hcase2 with ⟨gB, g2⟩ | ⟨gB, g2⟩
              all_goals
                go_wp2
                all_goals
                  first
                    | (have hk0 : 0 < k := by assumption
                       exact absurd hk0 (by have := of_decide_eq_false g2; omega))
                    | (have hp : ((U : Int) % 2 == 1) = true := by assumption
                       exact bodyPost_ret (v := .agg #[.int .i64 (wrap64 (wrap64 (-wrap64 (IntKind.u64.wrap ((U : Int) / 2))) - 1)), .int .i64 ((A : Int) + (k : Int) + 1), .int .i64 0]) (by simp [results, Tryz.results86, go_sem]) rfl ⟨agg_ret (spec_odd hU hp HZ.out), (Below.refl _ _).alloc (Nat.le_refl _) _⟩)
                    | (have hp : ((U : Int) % 2 == 1) = false := by assumption
                       exact bodyPost_ret (v := .agg #[.int .i64 (wrap64 (IntKind.u64.wrap ((U : Int) / 2))), .int .i64 ((A : Int) + (k : Int) + 1), .int .i64 0]) (by simp [results, Tryz.results86, go_sem]) rfl ⟨agg_ret (spec_even hU hp HZ.out), (Below.refl _ _).alloc (Nat.le_refl _) _⟩)
        · have g : ((k : Int) == 9) = false := beq_eq_false_iff_ne.2 (by omega)
          have HM := hide (show getN s (A : Int) = getR s A (10 - (k + 1)) (k + 1) by rw [HN'.out, show 10 - k = (9 - k) + 1 from by omega, getR_more (by omega) (by omega) (by rw [hB.out]; exact h128), show 9 - k = 10 - (k + 1) from by omega])
          have HA := hide hacc
          clear hacc hU
          go_wp2
          go_round
          case rel => exact ⟨k + 1, by omega, by go_num, by rw [HA.out], HM.out⟩
          case measure => simp [intOf]; omega

set_option maxRecDepth 100000 in
set_option maxHeartbeats 2000000 in
theorem spec_get (s : ByteArray) (a : Int) (w : World) (hs : s.size ≤ maxLen) (ha : a ≤ 9223372036854775807) :
    Calls Tryz.prog 86 #[.string s, .int .i64 a] w fun e w' => e = .returned (.agg #[.int .i64 (getN s a).1, .int .i64 (getN s a).2.1, .int .i64 (getN s a).2.2]) ∧ Below w.heap.size w w' := by
  by_cases h8 : 8000 < s.size
  · have HZ : Hid (getN s a = (0, 0, 2)) := by show _ = _; rw [getN, if_pos h8]
    unfold maxLen at hs
    clear ha
    go_enter Tryz.func86, Tryz.ntmps86
    go_wp2_with fail
    exact bodyPost_ret (v := .agg #[.int .i64 0, .int .i64 0, .int .i64 2]) (by simp [results, Tryz.results86, go_sem]) rfl ⟨agg_ret HZ.out, (Below.refl _ _).alloc (Nat.le_refl _) _⟩
  · by_cases h0 : a < 0
    · have HZ : Hid (getN s a = (0, 0, 1)) := by show _ = _; rw [getN, if_neg h8, if_pos h0]
      unfold maxLen at hs
      clear ha
      go_enter Tryz.func86, Tryz.ntmps86
      go_wp2_with fail
      exact bodyPost_ret (v := .agg #[.int .i64 0, .int .i64 0, .int .i64 1]) (by simp [results, Tryz.results86, go_sem]) rfl ⟨agg_ret HZ.out, (Below.refl _ _).alloc (Nat.le_refl _) _⟩
    · obtain ⟨A, rfl⟩ := Int.eq_ofNat_of_zero_le (show 0 ≤ a by omega)
      exact spec_get_at s A w (by omega) ha
end Go.Proofs.YtonafcifolddjaaGreatDoor
