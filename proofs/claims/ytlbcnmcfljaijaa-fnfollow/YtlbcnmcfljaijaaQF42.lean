import Derived.Test.YtlbcnmcfljaijaaQF41
import Derived.Test.YtlbcnmcfljaijaaQF29
import Derived.Test.YtlbcnmcfljaijaaQF19
import Derived.Test.YtlbcnmcfljaijaaQF40
import Derived.Test.YtlbcnmcfljaijaaQF22
namespace Go.Proofs.Ytlbcnmcfljaijaa
open Go.RowKit
set_option linter.unusedSimpArgs false
set_option linter.unusedVariables false

structure MmAt (w wr : World) (sb : Nat) (ao : Option Addr) (len cap : Nat) (sv ev : Value) (m : Mach) : Prop where
  so : RStateOwn wr w.heap.size sv m.states
  eo : REdgeOwn wr w.heap.size ev m.edges
  sf : ∀ x ∈ m.states, x.fit
  ef : ∀ x ∈ m.edges, x.fit
  sl : m.states.length ≤ 40
  el : m.edges.length ≤ 40
  ds : ∀ b ∈ vblocks sv, b ∉ vblocks ev
  src : Src wr sb ao len cap
  ap : Apart w wr [sb]
theorem MmAt.drawn {w wr wn : World} {sb : Nat} {ao : Option Addr} {len cap : Nat} {sv ev : Value} {m : Mach} (h : MmAt w wr sb ao len cap sv ev m) (hsb : sb < w.heap.size) (hs : Src wn sb ao len cap) (hg : wr.grownBy wn (some sb)) : MmAt w wn sb ao len cap sv ev m :=
  ⟨owns_keep h.so (Apart.grown hg) (fun b hb hm => by simp at hm; have := (owns_fresh h.so).lo b hb; omega), owns_keep h.eo (Apart.grown hg) (fun b hb hm => by simp at hm; have := (owns_fresh h.eo).lo b hb; omega), h.sf, h.ef, h.sl, h.el, h.ds, hs, (h.ap.trans (Apart.grown hg)).sub (by simp)⟩
theorem MmAt.below {w wr wn : World} {sb : Nat} {ao : Option Addr} {len cap : Nat} {sv ev : Value} {m : Mach} (h : MmAt w wr sb ao len cap sv ev m) (hb : Below wr.heap.size wr wn) : MmAt w wn sb ao len cap sv ev m :=
  ⟨owns_below h.so hb, owns_below h.eo hb, h.sf, h.ef, h.sl, h.el, h.ds, h.src.apart (below_apart hb) (by simp), h.ap.then hb⟩
theorem MmAt.fit {w wr : World} {sb : Nat} {ao : Option Addr} {len cap : Nat} {sv ev : Value} {m : Mach} (h : MmAt w wr sb ao len cap sv ev m) : m.fit := ⟨h.sf, h.ef, by have := h.sl; omega, by have := h.el; omega⟩
theorem MmAt.at_ {w wr : World} {sb : Nat} {ao : Option Addr} {len cap : Nat} {sv ev : Value} {m : Mach} (h : MmAt w wr sb ao len cap sv ev m) : MachAt wr (.agg #[sv, ev, .int .i64 m.start]) m :=
  ⟨sv, ev, rfl, h.so.sl (by have := h.sl; omega), h.eo.sl (by have := h.el; omega)⟩
theorem moT_fit {ns : List Nd} (h : ∀ n ∈ ns, n.fit) : (∀ x ∈ (moT ns).states, x.fit) ∧ (∀ x ∈ (moT ns).edges, x.fit) ∧ (moT ns).states.length ≤ ns.length ∧ (moT ns).edges.length ≤ ns.length := by
  unfold moT
  split
  · exact ⟨fun x hx => (by cases hx), fun x hx => (by cases hx), Nat.zero_le _, Nat.zero_le _⟩
  · split
    · exact machP_fit h
    · exact ⟨fun x hx => (by cases hx), fun x hx => (by cases hx), Nat.zero_le _, Nat.zero_le _⟩
end Go.Proofs.Ytlbcnmcfljaijaa
namespace Go.Proofs.Ytlbcnmcfljaijaa
open Go.RowKit
attribute [local go_sem ↓] Go.wp_at_zero Go.wp_at_succ

def outP : Obj := .cells #[.slice none 0 0, .int .i64 0] 63
theorem set2 {B : Nat} {a w : World} (h : Below B a w) (y0 y1 : Value) : Below B a ((w.setCell ⟨B, 0, none⟩ y0).setCell ⟨B, 1, none⟩ y1) := (h.setCell (p := ⟨B, 0, none⟩) (Nat.le_refl _) _).setCell (p := ⟨B, 1, none⟩) (Nat.le_refl _) _
theorem ap2 (w : World) (B : Nat) (y0 y1 : Value) : Apart w ((w.setCell ⟨B, 0, none⟩ y0).setCell ⟨B, 1, none⟩ y1) [B] := (setCell_apart w B 0 y0).setCell 1 y1
end Go.Proofs.Ytlbcnmcfljaijaa
namespace Go.Proofs.Ytlbcnmcfljaijaa
open Go.RowKit
attribute [local go_sem ↓] Go.wp_at_zero Go.wp_at_succ

def PoAnsF (w w' : World) (e : Ending) (T : List Nd) (C : Int) : Prop := ∃ v', e = .returned (.agg #[v', .int .i64 C]) ∧ RdW w' (btF w.heap.size w') v' T ∧ Below w.heap.size w w'
theorem po_errS {w w' : World} (C : Int) (hb : Below w.heap.size w w') : PoAnsF w w' (.returned (.agg #[.slice none 0 0, .int .i64 C])) [] C := ⟨_, rfl, ⟨none, 0, rfl, Nat.le_refl _, Nat.zero_le _, Nat.zero_le _, fun h => absurd rfl h⟩, hb⟩
set_option maxRecDepth 100000 in
set_option maxHeartbeats 2000000 in
theorem s_partOfF (ns : List Nd) (role : ByteArray) (T : List Nd) (C : Int) (hpo : PoIs ns role T C) (v : Value) (w : World) (fit : ∀ n ∈ ns, n.fit) (hrole : role.size ≤ maxLen) (hv : SlAt w w.heap.size v ns) :
    Calls Try.prog 28 #[v, .string role] w fun e w' => PoAnsF w w' e T C := by
  have HV := hide hv
  have HFT := hide fit
  have HRO := hide hrole
  have hlm := hv.lenm
  unfold maxLen at hrole
  obtain ⟨ao, cap, rfl, hc, hm, hr⟩ := hv
  have HO : Hid (BoxL (w.alloc outP) w.heap.size [.slice none 0 0, .int .i64 0]) := hide (BoxL.new w [.slice none 0 0, .int .i64 0] 63)
  obtain ⟨N, hN⟩ : ∃ N, ns.length = N := ⟨_, rfl⟩
  have HN := hide hN
  clear hr fit
  rcases hpo with ⟨hbig, rfl, rfl⟩ | ⟨h1, h2, hpo⟩
  · rw [hN] at hbig hlm ⊢
    clear hN
    by_cases h4 : 400 < N
    · go_enter Try.func28, Try.ntmps28
      go_wp2_with fail
      refine bodyPost_ret (v := .agg #[.slice none 0 0, .int .i64 2]) (by simp [results, Try.results28, go_sem]) rfl ?_
      exact po_errS 2 ((Below.refl _ _).alloc (Nat.le_refl _) _)
    · have h8 : 8000 < role.size := by omega
      go_enter Try.func28, Try.ntmps28
      go_wp2_with fail
      refine bodyPost_ret (v := .agg #[.slice none 0 0, .int .i64 2]) (by simp [results, Try.results28, go_sem]) rfl ?_
      exact po_errS 2 ((Below.refl _ _).alloc (Nat.le_refl _) _)
  · obtain ⟨q1, hq1⟩ : ∃ q, rightB false ns = q := ⟨_, rfl⟩
    obtain ⟨q2, hq2⟩ : ∃ q, nameB role = q := ⟨_, rfl⟩
    rw [hq1, hq2] at hpo
    have HPR : Hid (∀ W, Below w.heap.size w W → Calls Try.prog 41 #[.slice ao N cap] W fun e w' => e = .returned (.bool q1) ∧ Below W.heap.size W w') := hide (fun W hb => by have := s_planRight ns (.slice ao ns.length cap) W HFT.out ((HV.out.carry hb).up hb.size); rw [hq1, hN] at this; exact this)
    have HNR : Hid (∀ W, Calls Try.prog 23 #[.string role] W fun e w' => e = .returned (.bool q2) ∧ w' = W) := hide (fun W => by have := spec_name role W HRO.out; rw [hq2] at this; exact this)
    have HPO := hide hpo
    rw [hN] at h1 hlm ⊢
    clear hN hq1 hq2 hpo
    have hnc : ¬ 400 < N := by omega
    have hn8 : ¬ 8000 < role.size := by omega
    cases q1
    · have HTC : Hid (T = [] ∧ C = 1) := hide (by rcases HPO.out with ⟨_, h, h'⟩ | ⟨h, _⟩; exact ⟨h, h'⟩; cases h)
      go_enter Try.func28, Try.ntmps28
      go_wp2_with (go_at_call 41; refine (HPR.out _ (malloc1 w _)).mono ?_; rintro e w1 ⟨rfl, hb1⟩; have HB1 : Hid (Below w.heap.size w w1) := hide ((malloc1 w _).trans (hb1.mono (by simp))); have HO1 := hide (HO.out.keep (below_apart hb1) (by simp)); have b0 := HO1.out.cell 0 _ rfl; have b1 := HO1.out.cell 1 _ rfl; have bz := HO1.out.fz; clear hb1)
      refine bodyPost_ret (v := .agg #[.slice none 0 0, .int .i64 1]) (by simp [results, Try.results28, go_sem, b0, b1]) rfl ?_
      rw [HTC.out.1, HTC.out.2]
      exact po_errS 1 (set2 HB1.out _ _)
    · cases q2
      · have HTC : Hid (T = [] ∧ C = 1) := hide (by rcases HPO.out with ⟨_, h, h'⟩ | ⟨h, _⟩; exact ⟨h, h'⟩; cases h)
        go_enter Try.func28, Try.ntmps28
        go_wp2_with (first
          | (go_at_call 41; refine (HPR.out _ (malloc1 w _)).mono ?_; rintro e w1 ⟨rfl, hb1⟩; have HB1 : Hid (Below w.heap.size w w1) := hide ((malloc1 w _).trans (hb1.mono (by simp))); have HO1 := hide (HO.out.keep (below_apart hb1) (by simp)); have b0 := HO1.out.cell 0 _ rfl; have b1 := HO1.out.cell 1 _ rfl; have bz := HO1.out.fz; clear hb1)
          | (go_at_call 23; refine (HNR.out _).mono ?_; rintro e w2 ⟨rfl, hw2⟩; subst w2))
        refine bodyPost_ret (v := .agg #[.slice none 0 0, .int .i64 1]) (by simp [results, Try.results28, go_sem, b0, b1]) rfl ?_
        rw [HTC.out.1, HTC.out.2]
        exact po_errS 1 (set2 HB1.out _ _)
      · obtain ⟨p, hp, hpl, h40, hres⟩ : ∃ p : Pn 10, ns = rowN 10 p ∧ planN 10 p ∧ ns.length ≤ 40 ∧ ((partN role 10 p = none ∧ T = [] ∧ C = 11) ∨ ∃ z, partN role 10 p = some z ∧ T = rowN 10 z ∧ C = 0) := by
          rcases HPO.out with ⟨h, _⟩ | ⟨_, h⟩
          · cases h
          · exact h
        have HOF : Hid (∀ W, Below w.heap.size w W → Calls Try.prog 42 #[.slice ao N cap, .int .i64 0, .string role] W fun e w' => OfAns 10 (rowN 10 p).length W w' e (partN role 10 p)) := hide (fun W hb => by
          have hs : RdW w (fun g => g < w.heap.size) (.slice ao N cap) ns := by
            obtain ⟨ao', cap', e, hc1, hc2, hr⟩ := HV.out
            injection e with e1 e2 e3
            subst e1
            subst e3
            exact ⟨ao, cap, by rw [HN.out], hc1, by unfold maxLen; omega, by omega, hr⟩
          exact of_calls role 10 p ns [] 0 (.slice ao N cap) W (fun g => g < w.heap.size) (fun g hg => Nat.lt_of_lt_of_le hg hb.size) hpl h40 (by rw [List.drop_zero, List.append_nil]; exact hp) (hs.on (fun g hg => hg) hb))
        rcases hres with ⟨hnone, rfl, rfl⟩ | ⟨z, hsome, rfl, rfl⟩
        · rw [hnone] at HOF
          go_enter Try.func28, Try.ntmps28
          go_wp2_with (first
            | (go_at_call 41; refine (HPR.out _ (malloc1 w _)).mono ?_; rintro e w1 ⟨rfl, hb1⟩; have HB1 : Hid (Below w.heap.size w w1) := hide ((malloc1 w _).trans (hb1.mono (by simp))); have HO1 := hide (HO.out.keep (below_apart hb1) (by simp)); clear hb1)
            | (go_at_call 23; refine (HNR.out _).mono ?_; rintro e w2 ⟨rfl, hw2⟩; subst w2)
            | (go_at_call 42; refine (HOF.out _ HB1.out).mono ?_; rintro e w3 ⟨q3, r3, rfl, h3a, h3b, h3c, h3d, h3e⟩; have HB3 : Hid (Below w.heap.size w w3) := hide (HB1.out.trans (h3e.mono HB1.out.size)); have HO3 := hide (HO1.out.keep (below_apart h3e) (by simp)); have b0 := HO3.out.cell 0 _ rfl; have b1 := HO3.out.cell 1 _ rfl; have bz := HO3.out.fz; obtain ⟨x3, y3, rfl, -⟩ := h3a; clear h3b h3c h3d h3e))
          refine bodyPost_ret (v := .agg #[.slice none 0 0, .int .i64 11]) (by simp [results, Try.results28, go_sem, b0, b1]) rfl ?_
          exact po_errS 11 (set2 HB3.out _ _)
        · rw [hsome] at HOF
          go_enter Try.func28, Try.ntmps28
          go_wp2_with (first
            | (go_at_call 41; refine (HPR.out _ (malloc1 w _)).mono ?_; rintro e w1 ⟨rfl, hb1⟩; have HB1 : Hid (Below w.heap.size w w1) := hide ((malloc1 w _).trans (hb1.mono (by simp))); have HO1 := hide (HO.out.keep (below_apart hb1) (by simp)); have HZ1 : Hid (w.heap.size + 1 ≤ w1.heap.size) := hide (by have := hb1.size; simpa using this); clear hb1)
            | (go_at_call 23; refine (HNR.out _).mono ?_; rintro e w2 ⟨rfl, hw2⟩; subst w2)
            | (go_at_call 42; refine (HOF.out _ HB1.out).mono ?_; rintro e w3 ⟨q3, r3, rfl, h3a, h3b, h3c, h3d, h3e⟩; have hr3 := h3b z rfl; subst hr3; have H3A := hide h3a; have HB3 : Hid (Below w.heap.size w w3) := hide (HB1.out.trans (h3e.mono HB1.out.size)); have HO3 := hide (HO1.out.keep (below_apart h3e) (by simp)); have b0 := HO3.out.cell 0 _ rfl; have b1 := HO3.out.cell 1 _ rfl; have bz := HO3.out.fz; obtain ⟨x3, y3, rfl, -⟩ := h3a; clear h3b h3c h3d h3e))
          refine bodyPost_ret (v := .agg #[.slice x3 (rowN 10 z).length y3, .int .i64 0]) (by simp [results, Try.results28, go_sem, b0, b1]) rfl ?_
          refine ⟨_, rfl, ?_, set2 HB3.out _ _⟩
          exact H3A.out.carry (fun g hg => (ap2 w3 w.heap.size _ _).block g hg.2.1 (fun hm => by simp at hm; have := hg.1; have := HZ1.out; omega)) (fun g hg => ⟨by have := hg.1; have := HZ1.out; omega, by have := hg.2.1; simpa using this, fun o => by rw [World.frozen?_setCell, World.frozen?_setCell]; exact hg.2.2 o⟩)
end Go.Proofs.Ytlbcnmcfljaijaa
