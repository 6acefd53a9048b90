/- The law of PartOf, walked. -/
import Derived.Test.YtmlkfnclniamiaaQPartOf19
import Derived.Test.YtmlkfnclniamiaaQPartOf20
import Derived.Test.YtmlkfnclniamiaaQPartOf40
import Derived.Test.YtmlkfnclniamiaaQPartOf16
import Derived.Deep.Slices
import Derived.ChangeArms
import Derived.ChangeSame
import Derived.WalkKit
namespace Go.Proofs.Ytmlkfnclniamiaa
open Go.RowKit

theorem rd_slaw {w : World} {v : Value} {T : List Nd} (h : RdS w (fun g => g < w.heap.size) v T) : SlAw w w.heap.size v T := by
  obtain ⟨ao, cap, e, h1, -, h3, h4⟩ := h
  exact ⟨ao, cap, e, h1, by omega, h4⟩
theorem nd_slaw {w : World} {base : Nat} {v : Value} {T : List Nd} (h : NdOwn w base v T) (hl : T.length ≤ 40) : SlAw w w.heap.size v T := rd_slaw ((h.rdS (by omega)).up (fun _ hg => hg.2))
set_option maxRecDepth 100000 in
set_option maxHeartbeats 8000000 in
theorem law_PartOf (role : ByteArray) (ns : List Nd) (ao : Option Addr) (cap : Nat) (w : World) (ok : ∀ n ∈ ns, n.ok) (hl : ns.length ≤ maxLen) (hro : role.size ≤ maxLen) (hr : ns ≠ [] → ∃ b o, ao = some ⟨b, o, none⟩ ∧ b < w.heap.size ∧ RowAt w b o ns) :
    Calls Try.prog 6 #[.slice ao ns.length cap, .string role] w fun e w' => e = .returned (.bool true) ∧ Below w.heap.size w w' := by
  have HRC : Hid (∀ w', Below w.heap.size w w' → ns ≠ [] → ∃ b o, ao = some ⟨b, o, none⟩ ∧ b < w'.heap.size ∧ RowAt w' b o ns) := hide (fun w' hb hne => by
    obtain ⟨b, o, e, hlt, hrow⟩ := hr hne
    exact ⟨b, o, e, Nat.lt_of_lt_of_le hlt hb.size, hrow.carry hlt hb⟩)
  have HR := hide hr
  have HOK := hide ok
  have HL := hide hl
  have HRO := hide hro
  have HT : Hid (∀ (w1 w2 : World), Below w.heap.size w w1 → Below w1.heap.size w1 w2 → Below w.heap.size w w2) := hide (fun w1 w2 h1 h2 => h1.trans (h2.mono h1.size))
  obtain ⟨T, C, hpo, hTL⟩ := po_ex ns role
  have HPO := hide hpo
  have HML := hide hTL
  have HLEN : Hid (1 + T.length * 5 ≤ 5900000) := hide (by omega)
  have hl2 : ns.length ≤ 9223372036854775807 := by unfold maxLen at hl; omega
  unfold maxLen at hro
  clear hr ok hl hpo hTL
  by_cases hbig : 1048576 < role.size
  · go_enter Try.func6, Try.ntmps6
    go_wp2_with fail
    go_ret
    exact ⟨rfl, Below.refl _ _⟩
  go_enter Try.func6, Try.ntmps6
  go_wp2_with (go_at_call 10; refine (sz_nodes ns ao cap _ HOK.out HL.out HR.out).mono ?_; rintro e w1 ⟨r, rfl, hrf, hb1⟩; have HRF := hide hrf; have HB1 := hide hb1; clear hrf hb1; by_cases hneg : r < 0)
  · go_ret
    exact ⟨rfl, HB1.out⟩
  · have HFIT := hide (HRF.out (by omega))
    have hlen : ns.length ≤ 1048576 := HFIT.out.1
    go_wp2_with (first
      | (go_at_call 27; (fail_if_success (have := HW16)); refine (held_partOutW 1 T.length C (.slice ps5 T.length cs5) w15 (by omega) HLEN.out ((HMT.out.carry HB15.out).up HB15.out.size)).mono ?_; rintro e w16 ⟨rfl, hb16⟩; have HW16 := hide (HT.out _ _ HW15.out hb16); clear hb16)
      | (go_at_call 25; (fail_if_success (have := HW15)); refine (eq_partOutW T C (.slice ps14 T.length cs14) (.slice ps3 T.length cs3) (w14.alloc (.cells #[.slice ps14 T.length cs14, .int .i64 C] 35)) (((nd_slaw HS14.out HML.out).carry (malloc1 _ _)).up (by simp)) ((HM3.out.carry HX14b.out).up HX14b.out.size)).mono ?_; rintro e w15 ⟨rfl, hb15⟩; have HW15 := hide (HT.out _ _ HW14b.out hb15); have HB15 : Hid (Below w11.heap.size w11 w15) := hide (HB14b.out.trans (hb15.mono HB14b.out.size)); have p0 := (HG11.out.keep (below_apart HB15.out) (by simp)).cell 0 _ rfl; have p1 := (HG11.out.keep (below_apart HB15.out) (by simp)).cell 1 _ rfl; clear hb15)
      | (go_at_call 24; (fail_if_success (have := HB14b)); refine (i_partOf ns role T C HPO.out _ _ HFIT.out.2 HRO.out HS13.out).mono ?_; rintro e w14 ⟨v14, rfl, hs14, hb14⟩; obtain ⟨ps14, cs14, rfl⟩ := owns_shape hs14; have HS14 := hide hs14; clear hs14; have HB14b : Hid (Below w11.heap.size w11 (w14.alloc (.cells #[.slice ps14 T.length cs14, .int .i64 C] 35))) := hide ((HB13.out.trans (hb14.mono HB13.out.size)).trans ((malloc1 _ _).mono (by have := HB13.out.size; have := hb14.size; omega))); have HX14b : Hid (Below w3.heap.size w3 (w14.alloc (.cells #[.slice ps14 T.length cs14, .int .i64 C] 35))) := hide (HX11.out.trans (HB14b.out.mono HX11.out.size)); have HW14b := hide (HT.out _ _ HW11.out HB14b.out); have a0 := (HA11.out.keep (below_apart HB14b.out) (by simp)).cell 0 _ rfl; have a1 := (HA11.out.keep (below_apart HB14b.out) (by simp)).cell 1 _ rfl; clear hb14)
      | (go_at_call 12; (fail_if_success (have := HS13)); refine (to_nodes ns ao cap _ hlen (HRC.out _ HW12.out)).mono ?_; rintro e w13 ⟨v13, rfl, hs13, hb13⟩; have HS13 := hide hs13; have HB13 : Hid (Below w11.heap.size w11 w13) := hide (HB12.out.trans (hb13.mono HB12.out.size)); clear hb13 hs13)
      | (go_at_call 27; (fail_if_success (have := HB12)); refine (held_partOutW 1 T.length C (.slice ps5 T.length cs5) w11 (by omega) HLEN.out HMT.out).mono ?_; rintro e w12 ⟨rfl, hb12⟩; have HB12 := hide hb12; have HW12 := hide (HT.out _ _ HW11.out hb12); clear hb12)
      | (go_at_call 26; refine (mark_partOutW 1 T C (.slice ps5 T.length cs5) w10 w4.heap.size (by omega) HLEN.out HM10.out (own_at HS10.out)).mono ?_; rintro e w11 ⟨rfl, hs11, W11, hw11, hg11⟩; have ha11 : Apart w10 w11 (vblocks (.slice ps5 T.length cs5)) := (by have := (below_apart hw11).trans (grownBy_apart hg11); rwa [List.nil_append] at this); have HMT := hide hs11; have HF10 := hide (owns_fresh HS10.out); have HX11 : Hid (Below w3.heap.size w3 w11) := hide (HX10.out.trans (ha11.below HX10.out.size (fun b hb => Nat.le_trans HZ34.out (HF10.out.lo b hb)))); have HW11 := hide (HW10.out.trans (ha11.below HW10.out.size (fun b hb => Nat.le_trans (Nat.le_trans HZ03.out HZ34.out) (HF10.out.lo b hb)))); have HG11 := hide (HG10.out.keep ha11 (fun h => absurd (HF5.out.hi _ h) (by omega))); have HA11 := hide (HA10.out.keep ha11 (fun h => absurd (HF10.out.lo _ h) (by have := HZ34b.out; omega))); have g0 := (HG11.out).cell 0 _ rfl; have g1 := (HG11.out).cell 1 _ rfl; clear hs11 ha11 hw11 hg11)
      | (go_at_call 25; (fail_if_success (have := HW10)); refine (eq_partOutW T C (.slice ps5 T.length cs5) (.slice ps3 T.length cs3) w9 (nd_slaw HS9.out HML.out) ((HM3.out.carry HX9.out).up HX9.out.size)).mono ?_; rintro e w10 ⟨rfl, hb10⟩; have HS10 := hide (HS9.out.below hb10); have HM10 := hide (nd_slaw HS10.out HML.out); have HX10 := hide (HX9.out.trans (hb10.mono HX9.out.size)); have HW10 := hide (HT.out _ _ HW9.out hb10); have HG10 := hide (HG9.out.keep (below_apart hb10) (by simp)); have HA10 := hide (HA9.out.keep (below_apart hb10) (by simp)); have g0 := (HG10.out).cell 0 _ rfl; have g1 := (HG10.out).cell 1 _ rfl; clear hb10)
      | (go_at_call 18; refine (mark_nodes 1 ns _ w8 (w3.heap.size + 1) (by omega) (by omega) ((HS4.out.carry HB48.out).up HB48.out.size) (HOA4.out.carry HB48.out)).mono ?_; rintro e w9 ⟨rfl, -, hg9⟩; have HQ9 : Hid (Apart w8 w9 (vblocks (.slice ao4 ns.length cap4))) := hide (grownBy_apart hg9); have HV4 : Hid (∀ b ∈ vblocks (.slice ao4 ns.length cap4), w3.heap.size + 1 ≤ b ∧ b < w4.heap.size) := hide (fun b hb => ⟨(HOA4.out.free b ((own_blocks rfl).2 hb)).1, (HOA4.out.free b ((own_blocks rfl).2 hb)).2.1⟩); have HS9 := hide (nd_keep (HS5.out.below HB58.out) HQ9.out (fun b hb hm => absurd (HV4.out b hm).2 (by have := (owns_fresh HS5.out).lo b hb; omega))); have HX9 : Hid (Below w3.heap.size w3 w9) := hide (HX8.out.trans (HQ9.out.below HX8.out.size (fun b hb => by have := (HV4.out b hb).1; omega))); have HW9 : Hid (Below w.heap.size w w9) := hide (HW8.out.trans (HQ9.out.below HW8.out.size (fun b hb => by have := (HV4.out b hb).1; have := HZ03.out; omega))); have HG9 := hide (HG8.out.keep HQ9.out (fun h => absurd (HV4.out _ h).2 (by have := HZ45.out; omega))); have HA9 := hide (HA8.out.keep HQ9.out (fun h => absurd (HV4.out _ h).1 (by omega))); have g0 := (HG9.out).cell 0 _ rfl; have g1 := (HG9.out).cell 1 _ rfl; have a0 := (HA9.out).cell 0 _ rfl; have a1 := (HA9.out).cell 1 _ rfl; clear hg9)
      | (go_at_call 14; refine (eq_nodes ns _ _ w7 ((HS4.out.carry HB47.out).up HB47.out.size) HS7.out).mono ?_; rintro e w8 ⟨rfl, hb8⟩; have HB48 : Hid (Below w4.heap.size w4 w8) := hide (HB47.out.trans (hb8.mono HB47.out.size)); have HB58 : Hid (Below w5.heap.size w5 w8) := hide (HB57.out.trans (hb8.mono HB57.out.size)); have HX8 : Hid (Below w3.heap.size w3 w8) := hide (HX7.out.trans (hb8.mono HX7.out.size)); have HW8 := hide (HT.out _ _ HW7.out hb8); have HG8 := hide (HG7.out.keep (below_apart hb8) (by simp)); have HA8 := hide (HA7.out.keep (below_apart hb8) (by simp)); clear hb8)
      | (go_at_call 12; (fail_if_success (have := HS7)); refine (to_nodes ns ao cap w6 hlen (HRC.out _ HW6.out)).mono ?_; rintro e w7 ⟨v7, rfl, hs7, hb7⟩; have HS7 := hide hs7; have HB47 : Hid (Below w4.heap.size w4 w7) := hide (HB46.out.trans (hb7.mono HB46.out.size)); have HB57 : Hid (Below w5.heap.size w5 w7) := hide (HB56.out.trans (hb7.mono HB56.out.size)); have HX7 : Hid (Below w3.heap.size w3 w7) := hide (HX6.out.trans (hb7.mono HX6.out.size)); have HW7 := hide (HT.out _ _ HW6.out hb7); have HG7 := hide (HG6.out.keep (below_apart hb7) (by simp)); have HA7 := hide (HA6.out.keep (below_apart hb7) (by simp)); clear hb7 hs7)
      | (go_at_call 25; (fail_if_success (have := HW6)); refine (eq_partOutW T C (.slice ps5 T.length cs5) (.slice ps3 T.length cs3) (w5.alloc (.cells #[.slice ps5 T.length cs5, .int .i64 C] 35)) (((nd_slaw HS5.out HML.out).carry (malloc1 _ _)).up (by simp)) ((HM3.out.carry HX5b.out).up HX5b.out.size)).mono ?_; rintro e w6 ⟨rfl, hb6⟩; have HB56 : Hid (Below w5.heap.size w5 w6) := hide ((malloc1 _ _).trans (hb6.mono (by simp))); have HB46 : Hid (Below w4.heap.size w4 w6) := hide (HB45.out.trans (HB56.out.mono HB45.out.size)); have HX6 := hide (HX5b.out.trans (hb6.mono HX5b.out.size)); have HW6 := hide (HT.out _ _ HW5b.out hb6); have HG6 := hide (HG5.out.keep (below_apart hb6) (by simp)); have HA6 := hide (HA5b.out.keep (below_apart hb6) (by simp)); clear hb6)
      | (go_at_call 24; (fail_if_success (have := HB45)); refine (i_partOf ns role T C HPO.out _ w4 HFIT.out.2 HRO.out HS4.out).mono ?_; rintro e w5 ⟨v5, rfl, hs5, hb5⟩; obtain ⟨ps5, cs5, rfl⟩ := owns_shape hs5; have HS5 := hide hs5; clear hs5; have HB45 := hide hb5; have HZ45 := hide hb5.size; have HF5 := hide (owns_fresh HS5.out); have HX5b : Hid (Below w3.heap.size w3 (w5.alloc (.cells #[.slice ps5 T.length cs5, .int .i64 C] 35))) := hide ((HX4.out.trans (hb5.mono HX4.out.size)).trans ((malloc1 _ _).mono (by have := HX4.out.size; have := hb5.size; omega))); have HW5b := hide (HT.out _ _ (HT.out _ _ HW4.out hb5) (malloc1 w5 (.cells #[.slice ps5 T.length cs5, .int .i64 C] 35))); have HG5 := hide (BoxL.new w5 [.slice ps5 T.length cs5, .int .i64 C] 35); have HA5b := hide ((HA4.out.keep (below_apart hb5) (by simp)).keep (below_apart (malloc1 w5 (.cells #[.slice ps5 T.length cs5, .int .i64 C] 35))) (by simp)); have a0 := (HA5b.out).cell 0 _ rfl; have a1 := (HA5b.out).cell 1 _ rfl; clear hb5)
      | (go_at_call 12; (fail_if_success (have := HS4)); refine (to_nodes_own ns ao cap (w3.alloc (.cells #[.slice ps3 T.length cs3, .int .i64 C] 35)) hlen (HRC.out _ HW3b.out)).mono ?_; rintro e w4 ⟨v4, rfl, hs4, hoa4, hb4⟩; have HS4 := hide hs4; obtain ⟨ao4, cap4, rfl, -⟩ := hs4; have HOA4 : Hid (OwnAt (w3.heap.size + 1) w4 (.slice ao4 ns.length cap4)) := hide (by simpa using hoa4); have HX4 : Hid (Below w3.heap.size w3 w4) := hide ((malloc1 _ _).trans (hb4.mono (by simp))); have HZ34 := hide HX4.out.size; have HZ34b : Hid (w3.heap.size + 1 ≤ w4.heap.size) := hide (by have := hb4.size; simpa using this); have HW4 := hide (HT.out _ _ HW3b.out hb4); have HA4 := hide (HA3.out.keep (below_apart hb4) (by simp)); clear hb4 hoa4)
      | (go_at_call 23; refine (s_partOf ns role T C HPO.out _ w2 HFIT.out.2 HRO.out HS2.out).mono ?_; rintro e w3 ⟨v3, rfl, hs3, hb3⟩; have HM3 := hide (rd_slaw hs3); obtain ⟨ps3, cs3, rfl, -⟩ := hs3; have HW3 := hide (HT.out _ _ HB2.out hb3); have HZ03 := hide HW3.out.size; have HW3b := hide (HT.out _ _ HW3.out (malloc1 w3 (.cells #[.slice ps3 T.length cs3, .int .i64 C] 35))); have HA3 := hide (BoxL.new w3 [.slice ps3 T.length cs3, .int .i64 C] 35); clear hb3)
      | (go_at_call 12; (fail_if_success (have := HS2)); refine (to_nodes ns ao cap _ hlen (HRC.out _ HB1.out)).mono ?_; rintro e w2 ⟨v2, rfl, hs2, hb2⟩; have HS2 := hide hs2; have HB2 : Hid (Below w.heap.size w w2) := hide (HB1.out.trans (hb2.mono HB1.out.size)); clear hb2 hs2))
    go_ret
    exact ⟨rfl, HW16.out⟩
end Go.Proofs.Ytmlkfnclniamiaa
/- A row of Nodes that is handed in, opened. -/
namespace Go.Proofs.Ytmlkfnclniamiaa
open Go.RowKit Go.ChangeShapes Go.WideShapes

theorem Try.cN : Try.prog.cellsOf 51 = 5 := by kernel_rfl
theorem Try.cI : Try.prog.cellsOf 2 = 1 := by kernel_rfl
theorem Try.cS : Try.prog.cellsOf 9 = 1 := by kernel_rfl

theorem one_of {α : Type} {l : List α} {j : Nat} {v : α} (h : (l.drop j).take 1 = [v]) : l[j]? = some v := by
  have h1 : ((l.drop j).take 1)[0]? = some v := by rw [h]; rfl
  rw [List.getElem?_take, if_pos (by omega), List.getElem?_drop] at h1
  simpa using h1

theorem open_node {H : Type} {enc : TypeId × Value → H} {w : World} {base : Nat} {spare : Nat → Bool} {held : Bool} {fuel : Nat} {cs : List Value} {x : DataW H × List MemPlace} (h : DataW.trod enc Try.prog w base spare held fuel 51 cs = some x) :
    ∃ n : Nd, n.ok ∧ cs[0]? = some (.int .i64 n.op) ∧ cs[1]? = some (.string n.name) ∧ cs[2]? = some (.string n.peer) ∧ cs[3]? = some (.int .i64 n.many) ∧ cs[4]? = some (.int .i64 n.sort) := by
  obtain ⟨xs, n, _, _, hl, hlen, hf⟩ := DataW.trod_struct Try.underlying51 h
  have hx5 : xs.length = 5 := hlen
  match xs, hx5 with
  | [y0, y1, y2, y3, y4], _ =>
    have g0 : DataW.trod enc Try.prog w base spare held n 2 ((cs.drop 0).take (Try.prog.cellsOf 2)) = some y0 := hf 0 _ rfl
    have g1 : DataW.trod enc Try.prog w base spare held n 9 ((cs.drop 1).take (Try.prog.cellsOf 9)) = some y1 := hf 1 _ rfl
    have g2 : DataW.trod enc Try.prog w base spare held n 9 ((cs.drop 2).take (Try.prog.cellsOf 9)) = some y2 := hf 2 _ rfl
    have g3 : DataW.trod enc Try.prog w base spare held n 2 ((cs.drop 3).take (Try.prog.cellsOf 2)) = some y3 := hf 3 _ rfl
    have g4 : DataW.trod enc Try.prog w base spare held n 2 ((cs.drop 4).take (Try.prog.cellsOf 2)) = some y4 := hf 4 _ rfl
    rw [Try.cI] at g0 g3 g4
    rw [Try.cS] at g1 g2
    obtain ⟨z0, e0, _⟩ := DataW.trod_int Try.underlying2 g0
    obtain ⟨s1, e1, _, k1⟩ := DataW.trod_string Try.underlying9 g1
    obtain ⟨s2, e2, _, k2⟩ := DataW.trod_string Try.underlying9 g2
    obtain ⟨z3, e3, _⟩ := DataW.trod_int Try.underlying2 g3
    obtain ⟨z4, e4, _⟩ := DataW.trod_int Try.underlying2 g4
    exact ⟨⟨z0, s1, s2, z3, z4⟩, ⟨k1, k2⟩, one_of e0, one_of e1, one_of e2, one_of e3, one_of e4⟩

theorem open_nodes {H : Type} {enc : TypeId × Value → H} {w : World} {base : Nat} {spare : Nat → Bool} {held : Bool} {fuel : Nat} {a0 : Option Addr} {len0 cap0 : Nat} {x : DataW H × List MemPlace} (h : DataW.trod enc Try.prog w base spare held fuel 22 [.slice a0 len0 cap0] = some x) :
    ∃ ns : List Nd, ns.length = len0 ∧ (∀ n ∈ ns, n.ok) ∧ ns.length ≤ maxLen ∧ (ns ≠ [] → ∃ b o, a0 = some ⟨b, o, none⟩ ∧ b < w.heap.size ∧ RowAt w b o ns) := by
  rcases Go.Deep.open_slice Try.underlying22 h with ⟨h0, _⟩ | ⟨a, len, cap, m, n, D, Pl, hcs, hb, hl, hm, hmm, hx, hel⟩
  · simp at h0
    obtain ⟨rfl, rfl, rfl⟩ := h0
    exact ⟨[], rfl, by simp, Nat.zero_le _, fun h => absurd rfl h⟩
  · simp at hcs
    obtain ⟨rfl, rfl, rfl⟩ := hcs
    have hlm : len0 ≤ m := by rw [hmm]; split <;> omega
    have each : ∀ i, i < len0 → ∃ nd : Nd, nd.ok ∧ ∀ b o, a = ⟨b, o, none⟩ → NodeAt w b (o + i * 5) nd := by
      intro i hi
      obtain ⟨cs', h1, h2⟩ := hel i (by omega)
      rw [Try.cN] at h1
      obtain ⟨_, hlen, hcell⟩ := World.cells?_some h1
      obtain ⟨nd, hok, e0, e1, e2, e3, e4⟩ := open_node h2
      refine ⟨nd, hok, fun b o hab => ?_⟩
      subst hab
      have pl : ∀ j, ((⟨b, o, none⟩ : Addr).add (i * 5)).add j = ⟨b, o + i * 5 + j, none⟩ := fun j => by
        rw [Go.Deep.add_add]
        unfold Addr.add
        split <;> simp_all <;> omega
      refine ⟨?_, ?_, ?_, ?_, ?_⟩
      · have := hcell 0 (by omega); rw [pl, e0] at this; exact this
      · have := hcell 1 (by omega); rw [pl, e1] at this; exact this
      · have := hcell 2 (by omega); rw [pl, e2] at this; exact this
      · have := hcell 3 (by omega); rw [pl, e3] at this; exact this
      · have := hcell 4 (by omega); rw [pl, e4] at this; exact this
    have : Inhabited Nd := ⟨⟨0, ByteArray.empty, ByteArray.empty, 0, 0⟩⟩
    obtain ⟨q, hq⟩ := Go.Deep.choose_lt each
    refine ⟨(List.range len0).map q, by simp, ?_, by simp; omega, fun hne => ?_⟩
    · intro x hx
      obtain ⟨i, hi, rfl⟩ := List.mem_map.1 hx
      exact (hq i (List.mem_range.1 hi)).1
    · have hpos : 0 < len0 := by
        rcases Nat.eq_zero_or_pos len0 with h | h
        · subst h; simp at hne
        · exact h
      obtain ⟨b, o, s⟩ := a
      have hsp : ∀ i, i < len0 → ((Addr.add ⟨b, o, s⟩ (i * 5)).add 0).spot = none := by
        intro i hi
        obtain ⟨cs', h1, h2⟩ := hel i (by omega)
        rw [Try.cN] at h1
        obtain ⟨_, hlen, hcell⟩ := World.cells?_some h1
        obtain ⟨nd, hok, e0, _⟩ := open_node h2
        have h0 := hcell 0 (by omega)
        rw [e0] at h0
        exact World.cell?_spot h0
      have hspot : s = none := by simpa [Addr.add] using hsp 0 hpos
      subst hspot
      have hrow : RowAt w b o ((List.range len0).map q) := rowsOf w b _ o (fun j hj => by
        simp only [List.getElem_map, List.getElem_range]
        exact (hq j (by simpa using hj)).2 b o rfl)
      refine ⟨b, o, rfl, ?_, hrow⟩
      have := (hq 0 hpos).2 b o rfl
      exact this.lt
end Go.Proofs.Ytmlkfnclniamiaa
