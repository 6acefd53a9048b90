/- The program's merging of two pieces. -/
import Derived.Test.YtehodjfgojcnlaaGreatQSound15
namespace Go.Proofs.YtehodjfgojcnlaaGreat
open Go.RowKit

theorem row_by {n : Nat} {p : Pn n} {S : Nat → Prop} {w : World} {u : Value} (hp : shapeN n p) (hS : ∀ g, S g → g < w.heap.size) (h : PcAt w S n p u) (hl : (rowN n p).length ≤ 1000) : RowBy u w (rowN n p) := row_calls n p hp u w (h.up (fun g hg => hS g hg)) hl
theorem hear_shape {n : Nat} {p : Pn (n + 1)} {a : ByteArray} {l : List (Br (Pn n))} (hp : shapeN (n + 1) p) (h : hearN p = some (a, l)) : l ≠ [] ∧ (∀ b ∈ l, shapeN n b.p) ∧ (rowN (n + 1) p).length = (brsBy (rowN n) l).length + 1 := by
  obtain ⟨b, rfl⟩ := hear_some h
  have hp' : tkOk ⟨6, b, a⟩ ∧ l ≠ [] ∧ ∀ b ∈ l, shapeN n b.p := hp
  exact ⟨hp'.2.1, hp'.2.2, by rw [row_talk]; rfl⟩
theorem merge_calls : ∀ n : Nat, MergeCalls n := by
  intro n
  induction n with
  | zero =>
    intro S x y u v w hS hx hy hl hu hv
    refine merge_any 0 S x y u v w (row_by hx hS hu (by omega)) (row_by hy hS hv (by omega)) (by omega) (by omega) hS hu _ _ _ _ _ _ _ _ _ _ (asked_leaf hu) (asked_leaf hv) none ?_ (fun h => by simp at h)
    rw [mergeN]
    unfold pickM
    simp
  | succ n ih =>
    intro S x y u v w hS hx hy hl hu hv
    have rx := row_by hx hS hu (by omega)
    have ry := row_by hy hS hv (by omega)
    rcases asked hx hu with ⟨nx, ax⟩ | ⟨a, cs, sp, sc, ex, rfl, bx⟩
    · rcases asked hy hv with ⟨ny, ay⟩ | ⟨b, ds, tp, tc, ey, rfl, by_⟩
      · refine merge_any (n + 1) S x y u v w rx ry (by omega) (by omega) hS hu _ _ _ _ _ _ _ _ _ _ ax ay none ?_ (fun h => by simp at h)
        rw [mergeN, nx]
        unfold pickM
        simp
      · refine merge_any (n + 1) S x y u _ w rx ry (by omega) (by omega) hS hu _ _ _ _ _ _ _ _ _ _ ax (asked_hear b tp ds.length tc) none ?_ (fun h => by simp at h)
        rw [mergeN, nx]
        unfold pickM
        simp
    · rcases asked hy hv with ⟨ny, ay⟩ | ⟨b, ds, tp, tc, ey, rfl, by_⟩
      · refine merge_any (n + 1) S x y _ v w rx ry (by omega) (by omega) hS hu _ _ _ _ _ _ _ _ _ _ (asked_hear a sp cs.length sc) ay none ?_ (fun h => by simp at h)
        rw [mergeN, ex, ny]
        unfold pickM
        simp
      · obtain ⟨h1, h2, h3⟩ := hear_shape hx ex
        obtain ⟨h4, h5, h6⟩ := hear_shape hy ey
        refine merge_any (n + 1) S x y _ _ w rx ry (by omega) (by omega) hS hu _ _ _ _ _ _ _ _ _ _ (asked_hear a sp cs.length sc) (asked_hear b tp ds.length tc) (hearO n a (mergeBy (mergeN n) cs ds)) ?_ (fun _ W hW => ?_)
        · rw [mergeN, ex, ey]
          unfold pickM hearO
          cases rowEq (rowN (n + 1) x) (rowN (n + 1) y)
          · simp only [Bool.false_eq_true, if_false, Bool.true_and]
            cases (a.toList == b.toList) <;> cases mergeBy (mergeN n) cs ds <;> rfl
          · rfl
        · exact merge_hear n S ih a b cs ds h2 h5 (by omega) h1 _ _ W (fun g hg => Nat.lt_of_lt_of_le (hS g hg) hW.size) (bx.carry (fun g hg => hW.block g (hS g hg)) (fun g hg => hg)) (by_.carry (fun g hg => hW.block g (hS g hg)) (fun g hg => hg))
end Go.Proofs.YtehodjfgojcnlaaGreat
/- The program's merging of all cases. -/
namespace Go.Proofs.YtehodjfgojcnlaaGreat
open Go.RowKit
attribute [local go_sem ↓] Go.wp_at_zero Go.wp_at_succ

/-- where the rounds stand -/
structure RoundA (n : Nat) (S : Nat → Prop) (w wr : World) (l : List (Br (Pn n))) (x0 : Pn n) (av : Value) (k : Nat) (x : Pn n) : Prop where
  same : mergeAll (mergeN n) x (l.drop k) = mergeAll (mergeN n) x0 l
  at_ : PcAt wr (plus S w.heap.size wr.heap.size) n x av
  sz : (rowN n x).length + (brsBy (rowN n) (l.drop k)).length ≤ 900
  shp : shapeN n x
  bel : Below w.heap.size w wr
set_option maxRecDepth 100000 in
set_option maxHeartbeats 2000000 in
theorem merge_all (n : Nat) (S : Nat → Prop) (c : Br (Pn n)) (l : List (Br (Pn n))) (hsh : ∀ b ∈ c :: l, shapeN n b.p) (hsz : (brsBy (rowN n) (c :: l)).length ≤ 900) (v : Value) (w : World) (hS : ∀ g, S g → g < w.heap.size) (h : BrS w S v (c :: l)) :
    Calls Tryz.prog 74 #[v] w fun e w' => Merged n S w w' e (mergeAll (mergeN n) c.p l) := by
  have HSH := hide hsh
  have HSS := hide hS
  have HSZ := hide hsz
  obtain ⟨ao, cap, rfl, hc1, hc2, hr⟩ := h
  obtain ⟨g, o, rfl, hg, hcells⟩ := hr (by simp)
  obtain ⟨k1, k2, u0, k3, k4⟩ := hcells 0 c rfl
  simp only [Nat.zero_mul, Nat.add_zero] at k1 k2 k3
  obtain ⟨T0, a0, rfl⟩ := k4.shape
  have hgw : g < w.heap.size := hS g hg
  have HCELLS := hide hcells
  have hl9 : l.length ≤ 900 := by have := brs_count (rowN n) (c :: l); simp only [List.length_cons] at this; omega
  have HST : Hid (RoundA n S w w l c.p (.iface T0 (.agg a0)) 0 c.p) := hide ⟨rfl, k4.up (fun g hg => .inl hg), by rw [brs_cons] at hsz; simp only [List.length_cons, List.length_append, List.drop_zero] at *; omega, hsh c (by simp), Below.refl _ _⟩
  simp only [List.length_cons] at hc1 ⊢
  obtain ⟨L, hL⟩ : ∃ L, l.length = L := ⟨_, rfl⟩
  rw [hL] at hc1 hl9 ⊢
  have HL := hide hL
  unfold maxLen at hc2
  clear hr hcells k4 hL hsh hsz hS
  by_cases hcap : cap = 1
  · subst hcap
    obtain rfl : L = 0 := by omega
    have HN : Hid (l = []) := hide (List.length_eq_zero_iff.1 HL.out)
    go_enter Tryz.func74, Tryz.ntmps74
    go_wp2_with fail
    go_loopw [4, 16] (fun av i wr => av = .iface T0 (.agg a0) ∧ i = .int .i64 0 ∧ wr = w) (fun _ _ _ => 0)
    case atStart => exact ⟨rfl, rfl, rfl⟩
    case round =>
      obtain ⟨rfl, rfl, rfl⟩ := hrel
      go_wp2_with fail
      go_ret2
      rw [HN.out]
      exact ⟨_, rfl, (fun z hz => by have hz' : some c.p = some z := hz; injection hz' with hz'; subst hz'; exact HST.out.at_), Below.refl _ _, (by first | exact .inl rfl | exact .inr ⟨_, _, rfl⟩)⟩
  · go_enter Tryz.func74, Tryz.ntmps74
    go_wp2_with fail
    go_loopw [4, 16] (fun av i wr => ∃ (k : Nat) (x : Pn n), k ≤ L ∧ i = .int .i64 k ∧ RoundA n S w wr l c.p av k x) (fun _ i _ => L - (intOf i).toNat)
    case atStart => exact ⟨0, c.p, Nat.zero_le _, rfl, HST.out⟩
    case round =>
      obtain ⟨k, x, hk, rfl, hR⟩ := hrel
      have HR := hide hR
      have hzw := hR.bel.size
      obtain ⟨Tx, ax, rfl⟩ := hR.at_.shape
      by_cases hlt : k < L
      · obtain ⟨d, hd⟩ : ∃ d, l[k]? = some d := ⟨l[k]'(by rw [HL.out]; exact hlt), List.getElem?_eq_getElem _⟩
        obtain ⟨m1, m2, u, m3, m4⟩ := HCELLS.out (k + 1) d (by rw [List.getElem?_cons_succ]; exact hd)
        obtain ⟨T, av, rfl⟩ := m4.shape
        have e1 := (hR.bel.cell (p := ⟨g, o + (k + 1) * 3, none⟩) hgw).trans m1
        have e2 := (hR.bel.cell (p := ⟨g, o + (k + 1) * 3 + 1, none⟩) hgw).trans m2
        have e3 := (hR.bel.cell (p := ⟨g, o + (k + 1) * 3 + 2, none⟩) hgw).trans m3
        rw [show o + (k + 1) * 3 = o + 3 + k * 3 by omega] at e1 e2 e3
        have HBD := hide (brs_drop hd)
        have hdm : d ∈ l := List.mem_of_getElem? hd
        have HEQ : Hid (mergeAll (mergeN n) c.p l = match mergeN n x d.p with
            | none => none
            | some q => mergeAll (mergeN n) q (l.drop (k + 1))) := hide (by
          have hlt' := (List.getElem?_eq_some_iff.1 hd).1
          have hde : l[k] = d := (List.getElem?_eq_some_iff.1 hd).2
          rw [← hR.same, List.drop_eq_getElem_cons hlt', hde, mergeAll]
          cases mergeN n x d.p <;> rfl)
        have HMC : Hid (∀ W, Below wr.heap.size wr W → Calls Tryz.prog 92 #[.iface Tx (.agg ax), .iface T (.agg av)] W fun e w' => Merged n (plus S w.heap.size wr.heap.size) W w' e (mergeN n x d.p)) := hide (fun W hW => by
          have hbd := HBD.out
          have hsz := HR.out.sz
          refine merge_calls n (plus S w.heap.size wr.heap.size) x d.p _ _ W (fun g hg => Nat.lt_of_lt_of_le (plus_lt HSS.out hzw hg) hW.size) HR.out.shp (HSH.out d (by simp [hdm])) (by omega) (PcAt.carry (fun g hg => hW.block g (plus_lt HSS.out hzw hg)) (fun g hg => hg) _ _ _ HR.out.at_) (PcAt.carry (fun g hg => (hW.block g (Nat.lt_of_lt_of_le (HSS.out g hg) hzw)).trans (HR.out.bel.block g (HSS.out g hg))) (fun g hg => .inl hg) _ _ _ m4))
        obtain ⟨om, hom⟩ : ∃ om, mergeN n x d.p = om := ⟨_, rfl⟩
        have HOM := hide hom
        have HSD : Hid (shapeN n d.p) := hide (HSH.out d (by simp [hdm]))
        rw [hom] at HMC
        obtain ⟨dl, dsrt, dp⟩ := d
        dsimp only at e1 e2
        clear m1 m2 m3 m4 hd hdm hR hom
        cases om with
        | none =>
          have HFIN : Hid (mergeAll (mergeN n) c.p l = none) := hide (by rw [HEQ.out]; dsimp only at HOM ⊢; rw [HOM.out])
          go_wp2_with (go_at_call 92; refine (HMC.out _ (malloc1 _ _)).mono ?_; rintro e w3 ⟨q3, rfl, h3a, h3b, hif3⟩; clear hif3; have HB3 : Hid (Below wr.heap.size wr w3) := hide ((malloc1 wr _).trans (h3b.mono (by simp))); clear h3a h3b)
          go_ret2
          rw [HFIN.out]
          exact ⟨_, rfl, (fun z hz => by cases hz), HR.out.bel.trans (HB3.out.mono hzw), (by first | exact .inl rfl | exact .inr ⟨_, _, rfl⟩)⟩
        | some q =>
          go_wp2_with (go_at_call 92; refine (HMC.out _ (malloc1 _ _)).mono ?_; rintro e w3 ⟨q3, rfl, h3a, h3b, hif3⟩; clear hif3; have H3A := hide (h3a q rfl); have HB3 : Hid (Below wr.heap.size wr w3) := hide ((malloc1 wr _).trans (h3b.mono (by simp))); have H3S := hide h3b.size; clear h3a h3b)
          go_roundw
          case rel =>
            have hs2 := (merge_sz n x dp q HOM.out).1
            have hbd := HBD.out
            have hsz := HR.out.sz
            refine ⟨k + 1, q, hlt, by go_num, ⟨?_, H3A.out.up (fun g hg => ?_), by omega, merge_shape n x dp q HR.out.shp HSD.out HOM.out, HR.out.bel.trans (HB3.out.mono hzw)⟩⟩
            · rw [HEQ.out, HOM.out]
            · rcases hg with hg | hg
              · exact plus_up HB3.out.size hg
              · exact .inr ⟨by have := hg.1; simp at this; omega, hg.2⟩
          case measure => simp [intOf]; omega
      · obtain rfl : k = L := by omega
        have HFIN : Hid (mergeAll (mergeN n) c.p l = some x) := hide (by have := HR.out.same; rw [List.drop_of_length_le (by rw [HL.out]; exact Nat.le_refl _), mergeAll] at this; exact this.symm)
        go_wp2_with fail
        go_ret2
        rw [HFIN.out]
        exact ⟨_, rfl, (fun z hz => by injection hz with hz; subst hz; exact HR.out.at_), HR.out.bel, (by first | exact .inl rfl | exact .inr ⟨_, _, rfl⟩)⟩
end Go.Proofs.YtehodjfgojcnlaaGreat
