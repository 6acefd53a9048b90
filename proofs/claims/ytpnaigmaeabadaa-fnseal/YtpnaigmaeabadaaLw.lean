/- lwAt, walked. -/
import Derived.Test.YtpnaigmaeabadaaDraw2
namespace Go.Proofs.Ytpnaigmaeabadaa
open Go.RowKit
set_option maxRecDepth 100000 in
set_option maxHeartbeats 400000 in
theorem lwat_core (b off len cap q : Nat) (p z most : Int) (w : World) (_hl : len ≤ 1048576) (hq : p.tmod (len : Int) = (q : Int)) (hql : q < len) (cz : w.cell? ⟨b, off + q, none⟩ = some (.int .u8 z)) (hz0 : 0 ≤ z) (hz1 : z < 256) (hm : 1 < most) (hm2 : most ≤ 1000000) :
    Calls Try.prog 14 #[.slice (some ⟨b, off, none⟩) len cap, .int .i64 p, .int .i64 most] w fun e w' => ∃ r : Int, e = .returned (.int .i64 r) ∧ 0 ≤ r ∧ r < most ∧ w' = w := by
  have g1 : decide (most ≤ 1) = false := decide_eq_false (by omega)
  have g : ((len : Int) == 0) = false := beq_eq_false_iff_ne.2 (by omega)
  have gl : ¬ (len : Int) = 0 := by omega
  have gm : ¬ most = 0 := by omega
  go_enter Try.func14, Try.ntmps14
  go_wp2_with fail
  go_ret
  exact ⟨z % most, rfl, Int.emod_nonneg _ (by omega), Int.emod_lt_of_pos _ (by omega), rfl⟩

set_option maxRecDepth 100000 in
set_option maxHeartbeats 400000 in
theorem lwat_none (ao : Option Addr) (cap : Nat) (p most : Int) (w : World) (hm : 1 < most) :
    Calls Try.prog 14 #[.slice ao 0 cap, .int .i64 p, .int .i64 most] w fun e w' => ∃ r : Int, e = .returned (.int .i64 r) ∧ 0 ≤ r ∧ r < most ∧ w' = w := by
  have g1 : decide (most ≤ 1) = false := decide_eq_false (by omega)
  go_enter Try.func14, Try.ntmps14
  go_wp2_with fail
  go_ret
  exact ⟨0, rfl, by omega, by omega, rfl⟩

theorem lwat_any (ao : Option Addr) (len cap : Nat) (p most : Int) (w : World) (hl : len ≤ 1048576) (hr : ArgRow w ao len) (hp : 0 ≤ p) (hm : 1 < most) (hm2 : most ≤ 1000000) :
    Calls Try.prog 14 #[.slice ao len cap, .int .i64 p, .int .i64 most] w fun e w' => ∃ r : Int, e = .returned (.int .i64 r) ∧ 0 ≤ r ∧ r < most ∧ w' = w := by
  by_cases h0 : len = 0
  · subst h0; exact lwat_none ao cap p most w hm
  · have h1 : 0 ≤ p.tmod (len : Int) := Int.tmod_nonneg _ hp
    have h2 : p.tmod (len : Int) < (len : Int) := Int.tmod_lt_of_pos _ (by omega)
    obtain ⟨q, hq⟩ := Int.eq_ofNat_of_zero_le h1
    obtain ⟨b, off, z, rfl, hc, hz0, hz1⟩ := hr q (by omega)
    exact lwat_core b off len cap q p z most w hl hq (by omega) hc hz0 hz1 hm hm2
end Go.Proofs.Ytpnaigmaeabadaa
