/- The program's pieces of a plan: branchesAhead, and pieceAhead at every plan. -/
import Derived.Test.YtmlkfnclniamiaaQPartOf38
import Derived.Test.YtmlkfnclniamiaaQPartOf15
namespace Go.Proofs.Ytmlkfnclniamiaa
open Go.RowKit
attribute [local go_sem ↓] Go.wp_at_zero Go.wp_at_succ

theorem map_get {n : Nat} {l : List (BV n)} {r L : List (Br (Pn n))} (h : L = l.map BV.b ++ r) : L.length = l.length + r.length := by rw [h, List.length_append, List.length_map]
/-- where the rounds stand -/
structure RoundB (n : Nat) (w wr : World) (B : Nat) (cs : List (Br (Pn n))) (r : List Nd) (lv cv : Value) (dn : List (BV n)) (rest : List (Br (Pn n))) : Prop where
  all : cs = dn.map BV.b ++ rest
  sl : SlAt wr B lv (brsBy (rowN n) rest ++ r)
  own : BrOwn wr w.heap.size cv dn
  bel : Below w.heap.size w wr
set_option maxRecDepth 100000 in
set_option maxHeartbeats 2000000 in
theorem branches_ahead (n : Nat) (cs : List (Br (Pn n))) (h4 : cs.length ≤ 4) (hp : ∀ b ∈ cs, PieceCalls n b.p) : BranchCalls n cs := by
  intro r v w B hB hv
  obtain ⟨i0, hi, hz0, hz1, hz2⟩ := info_parts Try.infoBr
  have HI := hide (And.intro hi (And.intro hz0 (And.intro hz1 hz2)))
  have HP := hide hp
  have HB := hide hB
  have HS : Hid (RoundB n w w B cs r v (.slice none 0 0) [] cs) := hide ⟨rfl, hv, BrOwn.nil _ _, Below.refl _ _⟩
  obtain ⟨M, hM⟩ : ∃ M, cs.length = M := ⟨_, rfl⟩
  rw [hM] at h4 ⊢
  have HM := hide hM
  obtain ⟨ao, cap, rfl, -⟩ := hv
  clear hi hz0 hz1 hz2 hp hM
  go_enter Try.func80, Try.ntmps80
  go_wp2_with fail
  go_loopw [0, 6, 10] (fun lv cv i wr => ∃ (dn : List (BV n)) (rest : List (Br (Pn n))), i = .int .i64 (dn.length : Int) ∧ dn.length ≤ M ∧ RoundB n w wr B cs r lv cv dn rest) (fun _ _ i _ => M - (intOf i).toNat)
  case atStart => exact ⟨[], cs, rfl, Nat.zero_le _, HS.out⟩
  case round =>
    obtain ⟨dn, rest, rfl, hle, hR⟩ := hrel
    have HR := hide hR
    obtain ⟨k, hk⟩ : ∃ k, dn.length = k := ⟨_, rfl⟩
    have HK := hide hk
    rw [hk] at hle
    rw [hk]
    by_cases hlt : k < M
    · cases rest with
      | nil => exact absurd (map_get hR.all) (by rw [HM.out, hk]; simp; omega)
      | cons b rest' =>
        have hbm : b ∈ cs := by rw [hR.all]; simp
        obtain ⟨bl, bs, bp⟩ := b
        have hsl := hR.sl
        rw [brs_cons, List.cons_append, List.append_assoc] at hsl
        obtain ⟨ao2, cap2, rfl, hc1, hc2, hr2⟩ := hsl
        obtain ⟨b2, o2, rfl, hb2, hrow2⟩ := hr2 (by simp)
        have hpos := row_pos n bp
        have hcap2 : cap2 ≠ 1 := by simp only [List.length_cons, List.length_append] at hc1; omega
        have HT : Hid (SlAt wr B (.slice (some ⟨b2, o2 + 5, none⟩) (rowN n bp ++ (brsBy (rowN n) rest' ++ r)).length (cap2 - 1)) (rowN n bp ++ (brsBy (rowN n) rest' ++ r))) := hide (SlAt.tail hb2 hrow2 hc1 hc2 _ (fun _ => rfl))
        have HC := hide (HP.out _ hbm (brsBy (rowN n) rest' ++ r) _ wr B (Nat.le_trans HB.out hR.bel.size) HT.out)
        have hbw : b2 < B := hb2
        obtain ⟨⟨c0, c1, c2, c3, c4⟩, -⟩ := hrow2
        dsimp only at c0 c1 c2 c3 c4
        obtain ⟨N, hN⟩ : ∃ N, (rowN n bp ++ (brsBy (rowN n) rest' ++ r)).length = N := ⟨_, rfl⟩
        simp only [List.length_cons] at hc1 ⊢
        rw [hN] at HC hc1 ⊢
        have hszr := hR.bel.size
        have hBB := HB.out
        obtain ⟨pc, cc, hpc⟩ := owns_shape hR.own.own
        rw [hk] at hpc
        subst hpc
        have hbwr : b2 < wr.heap.size := by omega
        clear hr2 hpos hN hR hk hbm
        go_wp2_with (go_at_call 53; refine HC.out.mono ?_; rintro e w2 ⟨u, v2, rfl, h1, h2, h3⟩; have H1 := hide h1; have H2 := hide h2; have H3 := hide h3; have d1 := (h3.cell (p := ⟨b2, o2 + 1, none⟩) hbwr).trans c1; have d4 := (h3.cell (p := ⟨b2, o2 + 4, none⟩) hbwr).trans c4; have d1a : ∀ o : Obj, (w2.alloc o).cell? ⟨b2, o2 + 1, none⟩ = some (.string bl) := (fun o => by rw [← d1]; exact (malloc1 w2 o).cell (p := ⟨b2, o2 + 1, none⟩) (Nat.lt_of_lt_of_le hbwr h3.size)); have HO2 : Hid (BrOwn w2.drew w.heap.size (.slice pc k cc) dn) := hide ((HR.out.own.keep h3).keep (Below.refl _ _).drew); have HX2 : Hid (PcAt w2.drew (off w.heap.size w2.drew.heap.size (.slice pc k cc)) n bp u) := hide (PcAt.carry (w := w2) (w' := w2.drew) (S := btw wr.heap.size w2.heap.size) (fun _ _ => rfl) (fun g hg => ⟨⟨Nat.le_trans hszr hg.1, hg.2⟩, fun hm => absurd ((owns_fresh HR.out.own.own).hi g hm) (by have := hg.1; omega)⟩) n bp u h1); obtain ⟨ao3, cap3, rfl, -⟩ := h2; obtain ⟨t2, a2, rfl⟩ := h1.shape; clear h1 h3)
        go_region_law (refine stepM_at rfl (.tmp 18) (.tmp 29) 99 rfl w.heap.size 133 i0 (.agg #[.string ByteArray.empty, .int .i64 0, .nilIface]) 3 40 Try.underlying99 HI.out.1 HI.out.2.1 HI.out.2.2.1 HI.out.2.2.2 rfl (by decide) (.slice pc k cc) k (dn.flatMap BV.cells) (by simp [Act.eval]) (by have := HO2.out.own; rw [HK.out] at this; exact owns_below this (malloc1 _ _)) ⟨w2.heap.size, 0, none⟩ 1 1 (BV.cells ⟨⟨bl, bs, bp⟩, .iface t2 (.agg a2)⟩) (by simp [Act.eval]) rfl (fun j u hj => new_rowq _ _ _ _ (by simp) j u hj) (bv_one H1.out) (by unfold maxLen; omega) (by omega) (by have := H3.out.size; simp; omega) ?_; intro v4 w4 hown4 hgr4 hat4; have HM4 := hide (br_push HO2.out ⟨⟨bl, bs, bp⟩, .iface t2 (.agg a2)⟩ HX2.out _ (by rw [HK.out]; exact hown4) hgr4 hat4); obtain ⟨p4, c4', rfl⟩ := owns_shape hown4; clear hown4 hgr4 hat4)
        all_goals
          go_wp2_with fail
          go_roundw
          case rel =>
            have hlo := (owns_fresh HR.out.own.own).lo
            have hz2 := H3.out.size
            have hb4 : Below w.heap.size w2.drew w4 := HM4.out.2.below (by simp; omega) hlo
            refine ⟨dn ++ [⟨⟨bl, bs, bp⟩, .iface t2 (.agg a2)⟩], rest', by rw [List.length_append, List.length_singleton, HK.out]; go_num, by rw [List.length_append, List.length_singleton, HK.out]; omega, ⟨by rw [HR.out.all]; simp, by have := (H2.out.carry ((Below.refl _ _).drew)).carry (hb4.mono HB.out); rw [List.length_append] at this; exact this, HM4.out.1, (HR.out.bel.trans (H3.out.mono hszr)).drew.trans hb4⟩⟩
          case measure => simp [intOf]; omega
    · have hkM : k = M := by omega
      have hrest : rest = [] := by
        have := map_get hR.all
        rw [HM.out, HK.out] at this
        exact List.length_eq_zero_iff.1 (by omega)
      subst hrest
      have HE : Hid (dn.map BV.b = cs) := hide (by rw [hR.all, List.append_nil])
      obtain ⟨pc, cc, hpc⟩ := owns_shape hR.own.own
      obtain ⟨ao2, cap2, hlv, -⟩ := hR.sl
      subst hpc
      subst hlv
      clear hR
      go_wp2_with fail
      go_ret2
      refine ⟨_, _, rfl, ?_, ?_, HR.out.bel⟩
      · have := HR.out.own.sl
        rw [HE.out] at this
        exact this
      · have := HR.out.sl
        simpa [brsBy] using this
theorem pieced_leaf {w w' : World} {B : Nat} {e : Ending} {x : Option ByteArray} {r : List Nd} (h : PiecedL w w' B e x r) : (Pieced w w' B e 0 x r) ∧ ∀ n, Pieced w w' B e (n + 1) (.leaf x) r := by
  obtain ⟨u, v', h1, h2, h3, h4⟩ := h
  exact ⟨⟨u, v', h1, h2, h3, h4⟩, fun n => ⟨u, v', h1, h2, h3, h4⟩⟩
theorem piece_leaf (x : Option ByteArray) (r : List Nd) (v : Value) (w : World) (B : Nat) (hB : B ≤ w.heap.size) (hv : SlAt w B v (leafRow x ++ r)) : Calls Try.prog 53 #[v] w fun e w' => PiecedL w w' B e x r := by
  cases x with
  | none => exact piece_end r v w B hB hv
  | some x => exact piece_var x r v w B hB hv
theorem piece_ahead : ∀ (n : Nat) (p : Pn n), planN n p → PieceCalls n p := by
  intro n
  induction n with
  | zero => intro p _ r v w B hB hv; exact (piece_leaf p r v w B hB hv).mono fun e w' h => (pieced_leaf h).1
  | succ n ih =>
    intro p
    refine Pn.cases (P := fun p => planN (n + 1) p → PieceCalls (n + 1) p) (fun x _ r v w B hB hv => ?_) (fun x q hp => ?_) (fun t l hp => ?_) p
    · exact (piece_leaf x r v w B hB hv).mono fun e w' h => (pieced_leaf h).2 n
    · exact piece_loop n x q (ih q hp)
    · have hp' : t.op = 3 ∧ (t.a.toList == t.b.toList) = false ∧ 1 ≤ l.length ∧ l.length ≤ 4 ∧ ∀ b ∈ l, planN n b.p := hp
      obtain ⟨op, a, b⟩ := t
      obtain ⟨h3, -, h1, h4, hb⟩ := hp'
      dsimp only at h3
      subst h3
      exact piece_msg n a b l h1 (branches_ahead n l h4 (fun b hm => ih b.p (hb b hm)))
end Go.Proofs.Ytmlkfnclniamiaa
/- PlanRight and PartRight of the specification. -/
namespace Go.Proofs.Ytmlkfnclniamiaa
open Go.RowKit

theorem s_planRight (ns : List Nd) (v : Value) (w : World) (fit : ∀ n ∈ ns, n.fit) (hv : SlAt w w.heap.size v ns) :
    Calls Try.prog 11 #[v] w fun e w' => e = .returned (.bool (rightB false ns)) ∧ Below w.heap.size w w' := by
  have HV := hide hv
  have HF := hide fit
  obtain ⟨ao, cap, rfl, hc, hm, hr⟩ := hv
  clear hr fit hc hm
  go_enter Try.func11, Try.ntmps11
  go_wp2_with (go_at_call 41; refine (s_right false ns _ _ HF.out HV.out).mono ?_; rintro e w1 ⟨rfl, hb1⟩; have HB1 := hide hb1; clear hb1)
  go_ret
  exact ⟨ret_bool rfl, HB1.out⟩
theorem s_partRight (ns : List Nd) (v : Value) (w : World) (fit : ∀ n ∈ ns, n.fit) (hv : SlAt w w.heap.size v ns) :
    Calls Try.prog 21 #[v] w fun e w' => e = .returned (.bool (rightB true ns)) ∧ Below w.heap.size w w' := by
  have HV := hide hv
  have HF := hide fit
  obtain ⟨ao, cap, rfl, hc, hm, hr⟩ := hv
  clear hr fit hc hm
  go_enter Try.func21, Try.ntmps21
  go_wp2_with (go_at_call 41; refine (s_right true ns _ _ HF.out HV.out).mono ?_; rintro e w1 ⟨rfl, hb1⟩; have HB1 := hide hb1; clear hb1)
  go_ret
  exact ⟨ret_bool rfl, HB1.out⟩
end Go.Proofs.Ytmlkfnclniamiaa
