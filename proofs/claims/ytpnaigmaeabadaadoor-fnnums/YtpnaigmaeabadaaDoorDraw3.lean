/- The draws that FnNums asks: any number, a text. -/
import Derived.Test.YtpnaigmaeabadaaDoorDraw2
namespace Go.Proofs.YtpnaigmaeabadaaDoor
open Go.RowKit

set_option maxRecDepth 100000 in
set_option maxHeartbeats 2000000 in
theorem any_num (sb : Nat) (ao : Option Addr) (len cap : Nat) (w : World) (hl : len ≤ 1048576) (h : Src w sb ao len cap) :
    Calls Tryd.prog 19 #[.pointer (some ⟨sb, 0, none⟩)] w fun e w' => ∃ r : Int, e = .returned (.int .i64 r) ∧ -9223372036854775808 ≤ r ∧ r ≤ 9223372036854775807 ∧ Src w' sb ao len cap ∧ w.grownBy w' (some sb) := by
  have HL := hide hl
  have HH := hide h
  clear h hl
  go_enter Tryd.func19, Tryd.ntmps19
  go_wp2_with fail
  refine (n_one sb ao len cap 4 _ (by omega) (by omega) HL.out HH.out).mono ?_
  rintro e w2 ⟨b, rfl, hs2, hg2⟩
  have H2 := hide (And.intro hs2 hg2)
  clear hs2 hg2
  cases b
  · go_wp2_with fail
    refine (n_any sb ao len cap 1099511627776 _ (by omega) (by omega) HL.out H2.out.1).mono ?_
    rintro e w3 ⟨r, rfl, r0, r1, hs3, hg3⟩
    have H3 := hide (And.intro hs3 (grown_trans H2.out.2 hg3))
    clear hs3 hg3
    go_wp2
    go_ret
    exact ⟨_, rfl, by omega, by omega, H3.out.1, H3.out.2⟩
  · go_wp2_with fail
    refine (edge_any sb ao len cap _ HL.out H2.out.1).mono ?_
    rintro e w3 ⟨r, rfl, r0, r1, hs3, hg3⟩
    have H3 := hide (And.intro hs3 (And.intro (grown_trans H2.out.2 hg3) (And.intro r0 r1)))
    clear hs3 hg3 r0 r1
    go_wp2
    go_ret
    exact ⟨_, rfl, H3.out.2.2.1, H3.out.2.2.2, H3.out.1, H3.out.2.1⟩

set_option maxRecDepth 100000 in
set_option maxHeartbeats 2000000 in
theorem draw_num (ao : Option Addr) (len cap : Nat) (w : World) (hl : len ≤ 1048576) (hr : ArgRow w ao len) :
    Calls Tryd.prog 6 #[.slice ao len cap] w fun e w' => ∃ n : Int, e = .returned (.int .i64 n) ∧ -9223372036854775808 ≤ n ∧ n ≤ 9223372036854775807 ∧ Below w.heap.size w w' := by
  have HL := hide hl
  have HS : Hid (∀ w, ArgRow w ao len → Calls Tryd.prog 18 #[.slice ao len cap] w fun e w' => e = .returned (.pointer (some ⟨w.heap.size, 0, none⟩)) ∧ Src w' w.heap.size ao len cap ∧ Below w.heap.size w w') := fun w hr => source_any ao len cap w hl hr
  have HR := hide hr
  clear hr hl
  go_enter Tryd.func6, Tryd.ntmps6
  go_wp2_with fail
  refine (HS.out _ HR.out).mono ?_
  rintro e w1 ⟨rfl, hs1, hb1⟩
  have H1 := hide (And.intro hs1 hb1)
  clear hs1 hb1
  go_wp2_with fail
  refine (any_num w.heap.size ao len cap _ HL.out H1.out.1).mono ?_
  rintro e w2 ⟨n, rfl, n0, n1, hs2, hg2⟩
  have H2 := hide (And.intro n0 (And.intro n1 (H1.out.2.grown hg2 H1.out.2.size (fun k hk => by have := Option.some.inj hk; omega))))
  clear n0 n1 hs2 hg2
  go_wp2
  go_ret
  exact ⟨n, rfl, H2.out.1, H2.out.2.1, H2.out.2.2⟩

set_option maxRecDepth 100000 in
set_option maxHeartbeats 2000000 in
theorem draw_text (ao : Option Addr) (len cap : Nat) (w : World) (hl : len ≤ 1048576) (hr : ArgRow w ao len) :
    Calls Tryd.prog 10 #[.slice ao len cap] w fun e w' => ∃ t : ByteArray, e = .returned (.string t) ∧ t.size ≤ 20010 ∧ Below w.heap.size w w' := by
  have HL := hide hl
  have HS : Hid (∀ w, ArgRow w ao len → Calls Tryd.prog 18 #[.slice ao len cap] w fun e w' => e = .returned (.pointer (some ⟨w.heap.size, 0, none⟩)) ∧ Src w' w.heap.size ao len cap ∧ Below w.heap.size w w') := fun w hr => source_any ao len cap w hl hr
  have HR := hide hr
  clear hr hl
  go_enter Tryd.func10, Tryd.ntmps10
  go_wp2_with fail
  refine (HS.out _ HR.out).mono ?_
  rintro e w1 ⟨rfl, hs1, hb1⟩
  have H1 := hide (And.intro hs1 hb1)
  clear hs1 hb1
  go_wp2_with fail
  refine (n_one w.heap.size ao len cap 8 _ (by omega) (by omega) HL.out H1.out.1).mono ?_
  rintro e w2 ⟨b, rfl, hs2, hg2⟩
  have hb2 : Below w.heap.size w w2 := H1.out.2.grown hg2 H1.out.2.size (fun k hk => by have := Option.some.inj hk; omega)
  have H2 := hide (And.intro hs2 hb2)
  clear hs2 hg2 hb2
  cases b
  · go_wp2_with fail
    refine (n_any w.heap.size ao len cap 20 _ (by omega) (by omega) HL.out H2.out.1).mono ?_
    rintro e w3 ⟨r, rfl, r0, r1, hs3, hg3⟩
    obtain ⟨j, rfl⟩ := Int.eq_ofNat_of_zero_le r0
    have H3 := hide (And.intro hs3 (H2.out.2.grown hg3 H2.out.2.size (fun k hk => by have := Option.some.inj hk; omega)))
    clear hs3 hg3
    go_wp2_with fail
    refine (bytes_any w.heap.size ao len cap j _ (by omega) HL.out H3.out.1).mono ?_
    rintro e w4 ⟨l, hll, rfl, hs4, hg4⟩
    have H4 := hide (And.intro hll (H3.out.2.grown hg4 H3.out.2.size (fun k hk => by have := Option.some.inj hk; omega)))
    clear hll hs4 hg4
    go_wp2
    go_ret
    exact ⟨_, rfl, by show l.length ≤ 20010; have := H4.out.1; omega, H4.out.2⟩
  · go_wp2_with fail
    refine (n_any w.heap.size ao len cap 3 _ (by omega) (by omega) HL.out H2.out.1).mono ?_
    rintro e w3 ⟨r, rfl, r0, r1, hs3, hg3⟩
    obtain ⟨j, rfl⟩ := Int.eq_ofNat_of_zero_le r0
    have H3 := hide (And.intro hs3 (H2.out.2.grown hg3 H2.out.2.size (fun k hk => by have := Option.some.inj hk; omega)))
    clear hs3 hg3
    have hmk := make_run w3 (19999 + j) (by omega)
    have hcv := conv_zeros w3 (19999 + j)
    rw [show ((19999 + j : Nat) : Int) = 19999 + (j : Int) from by omega] at hmk
    go_wp2
    go_ret
    exact ⟨_, rfl, by show (List.replicate (19999 + j) (0 : UInt8)).toArray.size ≤ 20010; simp; omega, H3.out.2.alloc H3.out.2.size _⟩
end Go.Proofs.YtpnaigmaeabadaaDoor
