/- The law of NetRead, walked. -/
import Derived.Test.YtpbaljoindljnaaSdL
import Derived.Test.YtpbaljoindljnaaBoxN
namespace Go.Proofs.Ytpbaljoindljnaa
open Go.RowKit

set_option maxRecDepth 100000 in
set_option maxHeartbeats 8000000 in
theorem law_NetRead (t : ByteArray) (w : World) (ht : t.size ≤ maxLen) :
    Calls Try.prog 6 #[.string t] w fun e w' => e = .returned (.bool true) ∧ Below w.heap.size w w' := by
  have HSZ := hide ht
  have HT : Hid (∀ (w1 w2 : World), Below w.heap.size w w1 → Below w1.heap.size w1 w2 → Below w.heap.size w w2) := hide (fun w1 w2 h1 h2 => h1.trans (h2.mono h1.size))
  obtain ⟨L, hLL⟩ : ∃ L, netL t = L := ⟨_, rfl⟩
  obtain ⟨M, hMM⟩ : ∃ M, noRMsg = M := ⟨_, rfl⟩
  obtain ⟨C, hCC⟩ : ∃ C, netC t = C := ⟨_, rfl⟩
  have HLEN : Hid (L.length ≤ 36) := hide (by rw [← hLL]; exact netL_len t)
  have HL32 : Hid (L.length ≤ 4294967296) := hide (by have := HLEN.out; omega)
  have HLL := hide hLL
  have HMM := hide hMM
  have HCC := hide hCC
  unfold maxLen at ht
  clear hLL hMM hCC
  by_cases h20 : 1048576 < t.size
  · go_enter Try.func6, Try.ntmps6
    go_wp2_with fail
    go_ret
    exact ⟨rfl, Below.refl _ _⟩
  · go_enter Try.func6, Try.ntmps6
    go_wp2_with (first
      | (go_at_call 22; refine (held_netOut 1 L.length M C _ w15 (by omega) (by have := HLEN.out; omega) ((HMT.out.carry HB16.out).up HB16.out.size)).mono ?_; rintro e w16 ⟨rfl, hb16⟩; have HW16 := hide (HT.out _ _ HW15.out hb16); clear hb16)
      | (go_at_call 20; refine (eq_netOut L M C _ _ (w14.alloc (.cells #[(.slice p14 L.length c14), .string M.frm, .string M.to, .string M.label, .int .i64 M.sort, .int .i64 C] 38)) ((HO14.out.below (malloc1 _ _)).sl HL32.out) ((HS3.out.carry HX14b.out).up HX14b.out.size)).mono ?_; rintro e w15 ⟨rfl, hb15⟩; have HW15 := hide (HT.out _ _ HW14b.out hb15); have HB16 : Hid (Below w11.heap.size w11 w15) := hide (HB14b.out.trans (hb15.mono HB14b.out.size)); obtain ⟨p0, p1, p2, p3, p4, p5⟩ := (HG11.out.carry HB16.out); clear hb15)
      | (go_at_call 19; refine (i_netRead_any t w12 HSZ.out).mono ?_; rw [HLL.out, HMM.out, HCC.out]; rintro e w14 ⟨v14, rfl, ho14, hb14⟩; have HO14 := hide ho14; obtain ⟨p14, c14, rfl⟩ := owns_shape ho14; have HB14b : Hid (Below w11.heap.size w11 (w14.alloc (.cells #[(.slice p14 L.length c14), .string M.frm, .string M.to, .string M.label, .int .i64 M.sort, .int .i64 C] 38))) := hide ((HB12.out.trans (hb14.mono HB12.out.size)).trans ((malloc1 _ _).mono (by have := HB12.out.size; have := hb14.size; omega))); have HX14b := hide (HX11.out.trans (HB14b.out.mono HX11.out.size)); have HW14b := hide (HT.out _ _ (HT.out _ _ HW12.out hb14) (malloc1 w14 (.cells #[(.slice p14 L.length c14), .string M.frm, .string M.to, .string M.label, .int .i64 M.sort, .int .i64 C] 38))); obtain ⟨a0, a1, a2, a3, a4, a5⟩ := HA11.out.carry HB14b.out; clear hb14; unfold netV)
      | (go_at_call 22; refine (held_netOut 1 L.length M C _ w11 (by omega) (by have := HLEN.out; omega) HMT.out).mono ?_; rintro e w12 ⟨rfl, hb12⟩; have HB12 := hide hb12; have HW12 := hide (HT.out _ _ HW11.out hb12); clear hb12)
      | (go_at_call 21; refine (out_mark 1 L M C p5 L.length c5 w6 (w3.heap.size + 1) (by omega) (by have := HLEN.out; omega) (HO6.out.sl HL32.out) HO6.out.fresh).mono ?_; rintro e w11 ⟨rfl, hs11, ha11⟩; have HMT := hide hs11; have HX11 : Hid (Below w3.heap.size w3 w11) := hide (below_markM HX6.out ha11 HO6.out.fresh (by omega) (Nat.le_refl _)); have HW11 := hide (below_markM HW6.out ha11 HO6.out.fresh (by have := HW3.out.size; omega) (Nat.le_refl _)); have HG11 := hide (HG6.out.keep ha11 (fun h => absurd (HO5.out.fresh.hi _ h) (by omega))); have HA11 := hide (HA6.out.keep ha11 (fun h => absurd (HO6.out.fresh.lo _ h) (by omega))); obtain ⟨g0, g1, g2, g3, g4, g5⟩ := HG11.out; clear hs11 ha11)
      | (go_at_call 20; refine (eq_netOut L M C _ _ (w5.alloc (.cells #[(.slice p5 L.length c5), .string M.frm, .string M.to, .string M.label, .int .i64 M.sort, .int .i64 C] 38)) ((HO5.out.below (malloc1 _ _)).sl HL32.out) ((HS3.out.carry HX5b.out).up HX5b.out.size)).mono ?_; rintro e w6 ⟨rfl, hb6⟩; have HB6 : Hid (Below w5.heap.size w5 w6) := hide ((malloc1 _ _).trans (hb6.mono (by simp))); have HO6 := hide (HO5.out.below HB6.out); have HX6 := hide (HX5b.out.trans (hb6.mono HX5b.out.size)); have HW6 := hide (HT.out _ _ HW5b.out hb6); have HG6 := hide (HG5.out.carry hb6); have HA6 := hide (HA5b.out.carry hb6); obtain ⟨g0, g1, g2, g3, g4, g5⟩ := HG6.out; clear hb6)
      | (go_at_call 19; refine (i_netRead_any t (w3.alloc (.cells #[(.slice p3 L.length c3), .string M.frm, .string M.to, .string M.label, .int .i64 M.sort, .int .i64 C] 38)) HSZ.out).mono ?_; rw [HLL.out, HMM.out, HCC.out]; rintro e w5 ⟨v5, rfl, ho5, hb5⟩; have HO5 : Hid (RMsgOwn w5 (w3.heap.size + 1) v5 L) := hide (by have := ho5; simpa using this); obtain ⟨p5, c5, rfl⟩ := owns_shape ho5; have hl5 : w3.heap.size + 1 ≤ w5.heap.size := (by have := hb5.size; simpa using this); have HX5b : Hid (Below w3.heap.size w3 (w5.alloc (.cells #[(.slice p5 L.length c5), .string M.frm, .string M.to, .string M.label, .int .i64 M.sort, .int .i64 C] 38))) := hide (((malloc1 _ _).trans (hb5.mono (by simp))).trans ((malloc1 _ _).mono (by omega))); have HW5b := hide (HT.out _ _ (HT.out _ _ HW3b.out hb5) (malloc1 w5 (.cells #[(.slice p5 L.length c5), .string M.frm, .string M.to, .string M.label, .int .i64 M.sort, .int .i64 C] 38))); have HG5 := hide (box_new w5 (.slice p5 L.length c5) M C); have HA5b := hide ((HA3.out.carry hb5).carry (malloc1 w5 (.cells #[(.slice p5 L.length c5), .string M.frm, .string M.to, .string M.label, .int .i64 M.sort, .int .i64 C] 38))); obtain ⟨a0, a1, a2, a3, a4, a5⟩ := HA5b.out; clear hb5 ho5; unfold netV)
      | (go_at_call 18; refine (s_netRead_any t w HSZ.out).mono ?_; rw [HLL.out, HMM.out, HCC.out]; rintro e w3 ⟨v3, rfl, ho3, hb3⟩; have HS3 := hide (ho3.sl HL32.out); obtain ⟨p3, c3, rfl⟩ := owns_shape ho3; have HW3 := hide hb3; have HW3b := hide (HT.out _ _ HW3.out (malloc1 w3 (.cells #[(.slice p3 L.length c3), .string M.frm, .string M.to, .string M.label, .int .i64 M.sort, .int .i64 C] 38))); have HA3 := hide (box_new w3 (.slice p3 L.length c3) M C); clear hb3 ho3; unfold netV))
    go_ret
    exact ⟨rfl, HW16.out⟩
end Go.Proofs.Ytpbaljoindljnaa
