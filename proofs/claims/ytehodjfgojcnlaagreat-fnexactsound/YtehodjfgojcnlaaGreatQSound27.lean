/- The program's pieces of a plan: pieceAhead. -/
import Derived.Test.YtehodjfgojcnlaaGreatQSound11
namespace Go.Proofs.YtehodjfgojcnlaaGreat
open Go.RowKit
attribute [local go_sem ↓] Go.wp_at_zero Go.wp_at_succ

/-- what pieceAhead answers -/
def Pieced (w w' : World) (B : Nat) (e : Ending) (n : Nat) (p : Pn n) (r : List Nd) : Prop := ∃ u v', e = .returned (.tuple #[u, v']) ∧ PcAt w' (btw w.heap.size w'.heap.size) n p u ∧ SlAt w' B v' r ∧ Below w.heap.size w w'
/-- the same of an end or a variable -/
def PiecedL (w w' : World) (B : Nat) (e : Ending) (x : Option ByteArray) (r : List Nd) : Prop := ∃ u v', e = .returned (.tuple #[u, v']) ∧ leafAt x u ∧ SlAt w' B v' r ∧ Below w.heap.size w w'
def PieceCalls (n : Nat) (p : Pn n) : Prop := ∀ (r : List Nd) (v : Value) (w : World) (B : Nat), B ≤ w.heap.size → SlAt w B v (rowN n p ++ r) → Calls Tryz.prog 25 #[v] w fun e w' => Pieced w w' B e n p r
set_option maxRecDepth 100000 in
set_option maxHeartbeats 1000000 in
theorem piece_end (r : List Nd) (v : Value) (w : World) (B : Nat) (hB : B ≤ w.heap.size) (hv : SlAt w B v (leafRow none ++ r)) : Calls Tryz.prog 25 #[v] w fun e w' => PiecedL w w' B e none r := by
  rw [leafRow, List.cons_append, List.nil_append] at hv
  obtain ⟨ao, cap, rfl, hc1, hc2, hr⟩ := hv
  obtain ⟨b, o, rfl, hb, hrow⟩ := hr (by simp)
  have HT : Hid (∀ ao, (cap ≠ 1 → ao = some ⟨b, o + 5, none⟩) → SlAt w B (.slice ao r.length (cap - 1)) r) := hide (fun ao ha => SlAt.tail hb hrow hc1 hc2 ao ha)
  have HBS := hide hB
  simp only [List.length_cons] at hc1
  obtain ⟨⟨c0, c1, c2, c3, c4⟩, -⟩ := hrow
  dsimp only at c0 c1 c2 c3 c4
  have hbw : b < w.heap.size := World.block_lt_of_cell? w _ c0
  clear hr
  by_cases hcap : cap = 1
  · subst hcap
    obtain rfl : r = [] := List.length_eq_zero_iff.1 (by omega)
    go_enter Tryz.func25, Tryz.ntmps25
    go_wp2_with fail
    go_region
    go_wp2_with fail
    go_ret2
    exact ⟨_, _, rfl, rfl, (HT.out _ (fun h => absurd rfl h)).carry ((alloc1 w _).drew.mono HBS.out), (alloc1 w _).drew⟩
  · go_enter Tryz.func25, Tryz.ntmps25
    go_wp2_with fail
    go_region
    go_wp2_with fail
    go_ret2
    exact ⟨_, _, rfl, rfl, (HT.out _ (fun _ => rfl)).carry ((alloc1 w _).drew.mono HBS.out), (alloc1 w _).drew⟩
set_option maxRecDepth 100000 in
set_option maxHeartbeats 1000000 in
theorem piece_var (x : ByteArray) (r : List Nd) (v : Value) (w : World) (B : Nat) (hB : B ≤ w.heap.size) (hv : SlAt w B v (leafRow (some x) ++ r)) : Calls Tryz.prog 25 #[v] w fun e w' => PiecedL w w' B e (some x) r := by
  rw [leafRow, List.cons_append, List.nil_append] at hv
  obtain ⟨ao, cap, rfl, hc1, hc2, hr⟩ := hv
  obtain ⟨b, o, rfl, hb, hrow⟩ := hr (by simp)
  have HT : Hid (∀ ao, (cap ≠ 1 → ao = some ⟨b, o + 5, none⟩) → SlAt w B (.slice ao r.length (cap - 1)) (r)) := hide (fun ao ha => SlAt.tail hb hrow hc1 hc2 ao ha)
  have HBS := hide hB
  simp only [List.length_cons] at hc1
  obtain ⟨⟨c0, c1, c2, c3, c4⟩, -⟩ := hrow
  dsimp only at c0 c1 c2 c3 c4
  have hbw : b < w.heap.size := World.block_lt_of_cell? w _ c0
  clear hr
  by_cases hcap : cap = 1
  · subst hcap
    obtain rfl : r = [] := List.length_eq_zero_iff.1 (by omega)
    go_enter Tryz.func25, Tryz.ntmps25
    go_wp2_with fail
    go_region
    go_wp2_with fail
    go_ret2
    exact ⟨_, _, rfl, rfl, (HT.out _ (fun h => absurd rfl h)).carry ((alloc1 w _).drew.mono HBS.out), (alloc1 w _).drew⟩
  · go_enter Tryz.func25, Tryz.ntmps25
    go_wp2_with fail
    go_region
    go_wp2_with fail
    go_ret2
    exact ⟨_, _, rfl, rfl, (HT.out _ (fun _ => rfl)).carry ((alloc1 w _).drew.mono HBS.out), (alloc1 w _).drew⟩
set_option maxRecDepth 100000 in
set_option maxHeartbeats 1000000 in
theorem piece_loop (n : Nat) (x : ByteArray) (p : Pn n) (hp : PieceCalls n p) (r : List Nd) (v : Value) (w : World) (B : Nat) (hB : B ≤ w.heap.size) (hv : SlAt w B v (rowN (n + 1) (.loop x p) ++ r)) : Calls Tryz.prog 25 #[v] w fun e w' => Pieced w w' B e (n + 1) (.loop x p) r := by
  rw [row_loop, List.cons_append] at hv
  obtain ⟨ao, cap, rfl, hc1, hc2, hr⟩ := hv
  obtain ⟨b, o, rfl, hb, hrow⟩ := hr (by simp)
  have HT : Hid (∀ ao, (cap ≠ 1 → ao = some ⟨b, o + 5, none⟩) → SlAt w B (.slice ao (rowN n p ++ r).length (cap - 1)) ((rowN n p ++ r))) := hide (fun ao ha => SlAt.tail hb hrow hc1 hc2 ao ha)
  have HBS := hide hB
  simp only [List.length_cons] at hc1
  obtain ⟨⟨c0, c1, c2, c3, c4⟩, -⟩ := hrow
  dsimp only at c0 c1 c2 c3 c4
  have hbw : b < w.heap.size := World.block_lt_of_cell? w _ c0
  clear hr
  have hpos := row_pos n p
  have hcap : cap ≠ 1 := by simp only [List.length_append] at hc1; omega
  have HC : Hid (Calls Tryz.prog 25 #[.slice (some ⟨b, o + 5, none⟩) (rowN n p ++ r).length (cap - 1)] (w.alloc (.cells #[.int .i64 2, .string x, .string noT, .int .i64 0, .int .i64 0] 32)).drew fun e w' => Pieced (w.alloc (.cells #[.int .i64 2, .string x, .string noT, .int .i64 0, .int .i64 0] 32)).drew w' B e n p r) := hide (hp r _ _ B (by simp; omega) ((HT.out _ (fun _ => rfl)).carry ((alloc1 w _).drew.mono HBS.out)))
  obtain ⟨N, hN⟩ : ∃ N, (rowN n p ++ r).length = N := ⟨_, rfl⟩
  rw [hN] at HC hc1
  rw [List.length_cons, hN]
  clear hN hp hpos
  go_enter Tryz.func25, Tryz.ntmps25
  go_wp2_with fail
  go_region
  go_wp2_with (go_at_call 25; refine HC.out.mono ?_; rintro e w2 ⟨u, v2, rfl, h1, h2, h3⟩; have H1 := hide h1; have H2 := hide h2; have H3 : Hid (Below w.heap.size w w2) := hide ((alloc1 w _).drew.trans (h3.mono (by simp))); have d1 := (h3.cell (p := ⟨w.heap.size, 1, none⟩) (by simp)); simp at d1; obtain ⟨ao2, cap2, rfl, -⟩ := h2; obtain ⟨t2, a2, rfl⟩ := h1.shape; clear h1 h3)
  go_ret2
  exact ⟨_, _, rfl, ⟨_, rfl, H1.out.wide (by simp)⟩, H2.out, H3.out⟩
/-- what branchesAhead answers -/
def Branched (w w' : World) (B : Nat) (e : Ending) (n : Nat) (cs : List (Br (Pn n))) (r : List Nd) : Prop := ∃ u v', e = .returned (.tuple #[u, v']) ∧ BrS w' (btw w.heap.size w'.heap.size) u cs ∧ SlAt w' B v' r ∧ Below w.heap.size w w'
def BranchCalls (n : Nat) (cs : List (Br (Pn n))) : Prop := ∀ (r : List Nd) (v : Value) (w : World) (B : Nat), B ≤ w.heap.size → SlAt w B v (brsBy (rowN n) cs ++ r) → Calls Tryz.prog 44 #[v, .int .i64 (cs.length : Int)] w fun e w' => Branched w w' B e n cs r
set_option maxRecDepth 100000 in
set_option maxHeartbeats 1000000 in
theorem piece_msg (n : Nat) (x y : ByteArray) (cs : List (Br (Pn n))) (hlen : 1 ≤ cs.length) (hp : BranchCalls n cs) (r : List Nd) (v : Value) (w : World) (B : Nat) (hB : B ≤ w.heap.size) (hv : SlAt w B v (rowN (n + 1) (.talk ⟨3, x, y⟩ cs) ++ r)) : Calls Tryz.prog 25 #[v] w fun e w' => Pieced w w' B e (n + 1) (.talk ⟨3, x, y⟩ cs) r := by
  rw [row_talk, List.cons_append] at hv
  obtain ⟨ao, cap, rfl, hc1, hc2, hr⟩ := hv
  obtain ⟨b, o, rfl, hb, hrow⟩ := hr (by simp)
  have HT : Hid (∀ ao, (cap ≠ 1 → ao = some ⟨b, o + 5, none⟩) → SlAt w B (.slice ao (brsBy (rowN n) cs ++ r).length (cap - 1)) (brsBy (rowN n) cs ++ r)) := hide (fun ao ha => SlAt.tail hb hrow hc1 hc2 ao ha)
  have HBS := hide hB
  simp only [List.length_cons] at hc1
  obtain ⟨⟨c0, c1, c2, c3, c4⟩, -⟩ := hrow
  dsimp only at c0 c1 c2 c3 c4
  have hbw : b < w.heap.size := World.block_lt_of_cell? w _ c0
  have hpos : 0 < (brsBy (rowN n) cs).length := by
    cases cs with
    | nil => simp at hlen
    | cons => rw [brs_cons]; simp
  have hcap : cap ≠ 1 := by simp only [List.length_append] at hc1; omega
  obtain ⟨M, hM⟩ : ∃ M, cs.length = M := ⟨_, rfl⟩
  have HC : Hid (Calls Tryz.prog 44 #[.slice (some ⟨b, o + 5, none⟩) (brsBy (rowN n) cs ++ r).length (cap - 1), .int .i64 (M : Int)] (w.alloc (.cells #[.int .i64 3, .string x, .string y, .int .i64 (M : Int), .int .i64 0] 32)).drew fun e w' => Branched (w.alloc (.cells #[.int .i64 3, .string x, .string y, .int .i64 (M : Int), .int .i64 0] 32)).drew w' B e n cs r) := hide (by rw [← hM]; exact hp r _ _ B (by simp; omega) ((HT.out _ (fun _ => rfl)).carry ((alloc1 w _).drew.mono HBS.out)))
  obtain ⟨N, hN⟩ : ∃ N, (brsBy (rowN n) cs ++ r).length = N := ⟨_, rfl⟩
  rw [hN] at HC hc1
  rw [hM] at c3
  rw [List.length_cons, hN]
  clear hN hp hpos hM hlen hr
  go_enter Tryz.func25, Tryz.ntmps25
  go_wp2_with fail
  go_region
  go_wp2_with (go_at_call 44; refine HC.out.mono ?_; rintro e w2 ⟨u, v2, rfl, h1, h2, h3⟩; have H1 := hide h1; have H2 := hide h2; have H3 : Hid (Below w.heap.size w w2) := hide ((alloc1 w _).drew.trans (h3.mono (by simp))); have d1 := (h3.cell (p := ⟨w.heap.size, 1, none⟩) (by simp)); have d2 := (h3.cell (p := ⟨w.heap.size, 2, none⟩) (by simp)); simp at d1 d2; obtain ⟨ao2, cap2, rfl, -⟩ := h2; obtain ⟨ao3, cap3, rfl, -⟩ := h1; clear h3)
  go_ret2
  exact ⟨_, _, rfl, ⟨_, rfl, H1.out.wide (by simp)⟩, H2.out, H3.out⟩
end Go.Proofs.YtehodjfgojcnlaaGreat
/- The program's pieces of a plan: branchesAhead, and pieceAhead at every plan. -/
namespace Go.Proofs.YtehodjfgojcnlaaGreat
open Go.RowKit
attribute [local go_sem ↓] Go.wp_at_zero Go.wp_at_succ

theorem map_get {n : Nat} {l : List (BV n)} {r L : List (Br (Pn n))} (h : L = l.map BV.b ++ r) : L.length = l.length + r.length := by rw [h, List.length_append, List.length_map]
/-- where the rounds stand -/
structure RoundB (n : Nat) (w wr : World) (B : Nat) (cs : List (Br (Pn n))) (r : List Nd) (lv cv : Value) (dn : List (BV n)) (rest : List (Br (Pn n))) : Prop where
  all : cs = dn.map BV.b ++ rest
  sl : SlAt wr B lv (brsBy (rowN n) rest ++ r)
  own : BrOwn wr w.heap.size cv dn
  bel : Below w.heap.size w wr
set_option maxRecDepth 100000 in
set_option maxHeartbeats 2000000 in
theorem branches_ahead (n : Nat) (cs : List (Br (Pn n))) (h4 : cs.length ≤ 4) (hp : ∀ b ∈ cs, PieceCalls n b.p) : BranchCalls n cs := by
  intro r v w B hB hv
  obtain ⟨i0, hi, hz0, hz1, hz2⟩ := info_parts Tryz.infoBr
  have HI := hide (And.intro hi (And.intro hz0 (And.intro hz1 hz2)))
  have HP := hide hp
  have HB := hide hB
  have HS : Hid (RoundB n w w B cs r v (.slice none 0 0) [] cs) := hide ⟨rfl, hv, BrOwn.nil _ _, Below.refl _ _⟩
  obtain ⟨M, hM⟩ : ∃ M, cs.length = M := ⟨_, rfl⟩
  rw [hM] at h4 ⊢
  have HM := hide hM
  obtain ⟨ao, cap, rfl, -⟩ := hv
  clear hi hz0 hz1 hz2 hp hM
  go_enter Tryz.func44, Tryz.ntmps44
  go_wp2_with fail
  go_loopw [0, 6, 10] (fun lv cv i wr => ∃ (dn : List (BV n)) (rest : List (Br (Pn n))), i = .int .i64 (dn.length : Int) ∧ dn.length ≤ M ∧ RoundB n w wr B cs r lv cv dn rest) (fun _ _ i _ => M - (intOf i).toNat)
  case atStart => exact ⟨[], cs, rfl, Nat.zero_le _, HS.out⟩
  case round =>
    obtain ⟨dn, rest, rfl, hle, hR⟩ := hrel
    have HR := hide hR
    obtain ⟨k, hk⟩ : ∃ k, dn.length = k := ⟨_, rfl⟩
    have HK := hide hk
    rw [hk] at hle
    rw [hk]
    by_cases hlt : k < M
    · cases rest with
      | nil => exact absurd (map_get hR.all) (by rw [HM.out, hk]; simp; omega)
      | cons b rest' =>
        have hbm : b ∈ cs := by rw [hR.all]; simp
        obtain ⟨bl, bs, bp⟩ := b
        have hsl := hR.sl
        rw [brs_cons, List.cons_append, List.append_assoc] at hsl
        obtain ⟨ao2, cap2, rfl, hc1, hc2, hr2⟩ := hsl
        obtain ⟨b2, o2, rfl, hb2, hrow2⟩ := hr2 (by simp)
        have hpos := row_pos n bp
        have hcap2 : cap2 ≠ 1 := by simp only [List.length_cons, List.length_append] at hc1; omega
        have HT : Hid (SlAt wr B (.slice (some ⟨b2, o2 + 5, none⟩) (rowN n bp ++ (brsBy (rowN n) rest' ++ r)).length (cap2 - 1)) (rowN n bp ++ (brsBy (rowN n) rest' ++ r))) := hide (SlAt.tail hb2 hrow2 hc1 hc2 _ (fun _ => rfl))
        have HC := hide (HP.out _ hbm (brsBy (rowN n) rest' ++ r) _ wr B (Nat.le_trans HB.out hR.bel.size) HT.out)
        have hbw : b2 < B := hb2
        obtain ⟨⟨c0, c1, c2, c3, c4⟩, -⟩ := hrow2
        dsimp only at c0 c1 c2 c3 c4
        obtain ⟨N, hN⟩ : ∃ N, (rowN n bp ++ (brsBy (rowN n) rest' ++ r)).length = N := ⟨_, rfl⟩
        simp only [List.length_cons] at hc1 ⊢
        rw [hN] at HC hc1 ⊢
        have hszr := hR.bel.size
        have hBB := HB.out
        obtain ⟨pc, cc, hpc⟩ := owns_shape hR.own.own
        rw [hk] at hpc
        subst hpc
        have hbwr : b2 < wr.heap.size := by omega
        clear hr2 hpos hN hR hk hbm
        go_wp2_with (go_at_call 25; refine HC.out.mono ?_; rintro e w2 ⟨u, v2, rfl, h1, h2, h3⟩; have H1 := hide h1; have H2 := hide h2; have H3 := hide h3; have d1 := (h3.cell (p := ⟨b2, o2 + 1, none⟩) hbwr).trans c1; have d4 := (h3.cell (p := ⟨b2, o2 + 4, none⟩) hbwr).trans c4; have d1a : ∀ o : Obj, (w2.alloc o).cell? ⟨b2, o2 + 1, none⟩ = some (.string bl) := (fun o => by rw [← d1]; exact (malloc1 w2 o).cell (p := ⟨b2, o2 + 1, none⟩) (Nat.lt_of_lt_of_le hbwr h3.size)); have HO2 : Hid (BrOwn w2.drew w.heap.size (.slice pc k cc) dn) := hide ((HR.out.own.keep h3).keep (Below.refl _ _).drew); have HX2 : Hid (PcAt w2.drew (off w.heap.size w2.drew.heap.size (.slice pc k cc)) n bp u) := hide (PcAt.carry (w := w2) (w' := w2.drew) (S := btw wr.heap.size w2.heap.size) (fun _ _ => rfl) (fun g hg => ⟨⟨Nat.le_trans hszr hg.1, hg.2⟩, fun hm => absurd ((owns_fresh HR.out.own.own).hi g hm) (by have := hg.1; omega)⟩) n bp u h1); obtain ⟨ao3, cap3, rfl, -⟩ := h2; obtain ⟨t2, a2, rfl⟩ := h1.shape; clear h1 h3)
        go_region_law (refine stepM_at rfl (.tmp 18) (.tmp 29) 76 rfl w.heap.size 107 i0 (.agg #[.string ByteArray.empty, .int .i64 0, .nilIface]) 3 40 Tryz.underlying76 HI.out.1 HI.out.2.1 HI.out.2.2.1 HI.out.2.2.2 rfl (by decide) (.slice pc k cc) k (dn.flatMap BV.cells) (by simp [Act.eval]) (by have := HO2.out.own; rw [HK.out] at this; exact owns_below this (malloc1 _ _)) ⟨w2.heap.size, 0, none⟩ 1 1 (BV.cells ⟨⟨bl, bs, bp⟩, .iface t2 (.agg a2)⟩) (by simp [Act.eval]) rfl (fun j u hj => new_rowq _ _ _ _ (by simp) j u hj) (bv_one H1.out) (by unfold maxLen; omega) (by omega) (by have := H3.out.size; simp; omega) ?_; intro v4 w4 hown4 hgr4 hat4; have HM4 := hide (br_push HO2.out ⟨⟨bl, bs, bp⟩, .iface t2 (.agg a2)⟩ HX2.out _ (by rw [HK.out]; exact hown4) hgr4 hat4); obtain ⟨p4, c4', rfl⟩ := owns_shape hown4; clear hown4 hgr4 hat4)
        all_goals
          go_wp2_with fail
          go_roundw
          case rel =>
            have hlo := (owns_fresh HR.out.own.own).lo
            have hz2 := H3.out.size
            have hb4 : Below w.heap.size w2.drew w4 := HM4.out.2.below (by simp; omega) hlo
            refine ⟨dn ++ [⟨⟨bl, bs, bp⟩, .iface t2 (.agg a2)⟩], rest', by rw [List.length_append, List.length_singleton, HK.out]; go_num, by rw [List.length_append, List.length_singleton, HK.out]; omega, ⟨by rw [HR.out.all]; simp, by have := (H2.out.carry ((Below.refl _ _).drew)).carry (hb4.mono HB.out); rw [List.length_append] at this; exact this, HM4.out.1, (HR.out.bel.trans (H3.out.mono hszr)).drew.trans hb4⟩⟩
          case measure => simp [intOf]; omega
    · have hkM : k = M := by omega
      have hrest : rest = [] := by
        have := map_get hR.all
        rw [HM.out, HK.out] at this
        exact List.length_eq_zero_iff.1 (by omega)
      subst hrest
      have HE : Hid (dn.map BV.b = cs) := hide (by rw [hR.all, List.append_nil])
      obtain ⟨pc, cc, hpc⟩ := owns_shape hR.own.own
      obtain ⟨ao2, cap2, hlv, -⟩ := hR.sl
      subst hpc
      subst hlv
      clear hR
      go_wp2_with fail
      go_ret2
      refine ⟨_, _, rfl, ?_, ?_, HR.out.bel⟩
      · have := HR.out.own.sl
        rw [HE.out] at this
        exact this
      · have := HR.out.sl
        simpa [brsBy] using this
theorem pieced_leaf {w w' : World} {B : Nat} {e : Ending} {x : Option ByteArray} {r : List Nd} (h : PiecedL w w' B e x r) : (Pieced w w' B e 0 x r) ∧ ∀ n, Pieced w w' B e (n + 1) (.leaf x) r := by
  obtain ⟨u, v', h1, h2, h3, h4⟩ := h
  exact ⟨⟨u, v', h1, h2, h3, h4⟩, fun n => ⟨u, v', h1, h2, h3, h4⟩⟩
theorem piece_leaf (x : Option ByteArray) (r : List Nd) (v : Value) (w : World) (B : Nat) (hB : B ≤ w.heap.size) (hv : SlAt w B v (leafRow x ++ r)) : Calls Tryz.prog 25 #[v] w fun e w' => PiecedL w w' B e x r := by
  cases x with
  | none => exact piece_end r v w B hB hv
  | some x => exact piece_var x r v w B hB hv
theorem piece_ahead : ∀ (n : Nat) (p : Pn n), planN n p → PieceCalls n p := by
  intro n
  induction n with
  | zero => intro p _ r v w B hB hv; exact (piece_leaf p r v w B hB hv).mono fun e w' h => (pieced_leaf h).1
  | succ n ih =>
    intro p
    refine Pn.cases (P := fun p => planN (n + 1) p → PieceCalls (n + 1) p) (fun x _ r v w B hB hv => ?_) (fun x q hp => ?_) (fun t l hp => ?_) p
    · exact (piece_leaf x r v w B hB hv).mono fun e w' h => (pieced_leaf h).2 n
    · exact piece_loop n x q (ih q hp)
    · have hp' : t.op = 3 ∧ (t.a.toList == t.b.toList) = false ∧ 1 ≤ l.length ∧ l.length ≤ 4 ∧ ∀ b ∈ l, planN n b.p := hp
      obtain ⟨op, a, b⟩ := t
      obtain ⟨h3, -, h1, h4, hb⟩ := hp'
      dsimp only at h3
      subst h3
      exact piece_msg n a b l h1 (branches_ahead n l h4 (fun b hm => ih b.p (hb b hm)))
end Go.Proofs.YtehodjfgojcnlaaGreat
