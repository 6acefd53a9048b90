/- PartOf of the program. -/
import Derived.Test.YtehodjfgojcnlaaGreatQSound26
import Derived.Test.YtehodjfgojcnlaaGreatQSound27
import Derived.Test.YtehodjfgojcnlaaGreatQSound35
import Derived.Laws.Rows
import Derived.Laws.MakeOwn
namespace Go.Proofs.YtehodjfgojcnlaaGreat
open Go.RowKit
attribute [local go_sem ↓] Go.wp_at_zero Go.wp_at_succ

theorem set_same {α : Type} : ∀ {l : List α} {j : Nat} {u : α}, l[j]? = some u → l.set j u = l
  | [], _, _, h => by simp at h
  | a :: l, 0, u, h => by simp at h; subst h; rfl
  | a :: l, j + 1, u, h => by rw [List.getElem?_cons_succ] at h; rw [List.set_cons_succ, set_same h]
theorem nd_same {w : World} {base g L c : Nat} {l : List Nd} (h : NdOwn w base (.slice (some ⟨g, 0, none⟩) L c) l) (hL : l.length = L) (j : Nat) (u : Value) (hj : (l.flatMap Nd.cells)[j]? = some u) : NdOwn (w.setCell ⟨g, j, none⟩ u) base (.slice (some ⟨g, 0, none⟩) L c) l := by
  unfold NdOwn at h ⊢
  rw [hL] at h ⊢
  have := (World.ownsRow.stored h j u).1
  rw [set_same hj] at this
  exact this
set_option maxRecDepth 100000 in
set_option maxHeartbeats 2000000 in
theorem own_texts (l : List Nd) (base : Nat) (v : Value) (w : World) (h : NdOwn w base v l) (hl : l.length ≤ 1000) (hf : fitL l) :
    Calls Tryz.prog 27 #[v] w fun e w' => e = .returned v ∧ NdOwn w' base v l ∧ Apart w w' (vblocks v) := by
  obtain ⟨p, c, hv⟩ := owns_shape h
  obtain ⟨L, hL⟩ : ∃ L, l.length = L := ⟨_, rfl⟩
  rw [hL] at hv hl
  have HL := hide hL
  subst hv
  have HH := hide h
  have HF := hide hf
  clear h hf hL
  go_enter Tryz.func27, Tryz.ntmps27
  go_wp2_with fail
  go_loopw [6] (fun i wr => ∃ k : Nat, k ≤ L ∧ i = .int .i64 k ∧ NdOwn wr base (.slice p L c) l ∧ Apart w wr (vblocks (.slice p L c))) (fun i _ => L - (intOf i).toNat)
  case atStart => exact ⟨0, Nat.zero_le _, rfl, HH.out, (Apart.refl w).sub (by simp)⟩
  case round =>
    obtain ⟨k, hk, rfl, hown, hap⟩ := hrel
    have HO := hide hown
    have HA := hide hap
    by_cases hlt : k < L
    · obtain ⟨g, hg⟩ : ∃ g, p = some ⟨g, 0, none⟩ := by
        rcases hown.2 with ⟨h0, h1⟩ | ⟨g', cap', cur', hv', _⟩
        · rw [HL.out] at h1; omega
        · injection hv' with hv' _ _; exact ⟨g', hv'⟩
      subst hg
      have hkl : k < l.length := by rw [HL.out]; exact hlt
      obtain ⟨x, hx⟩ : ∃ x, l[k] = x := ⟨_, rfl⟩
      have HFX : Hid x.fit := hide (by rw [← hx]; exact HF.out _ (List.getElem_mem hkl))
      have HJ : Hid (∀ i (hi : i < 5) (u : Value), x.cells[i]? = some u → (l.flatMap Nd.cells)[k * 5 + i]? = some u) := hide (fun i hi u hu => (flat_get Nd.cells 5 Nd.cells_len l k hkl i hi).trans (by rw [hx]; exact hu))
      have HC : Hid (∀ W, NdOwn W base (.slice (some ⟨g, 0, none⟩) L c) l → W.cell? ⟨g, k * 5 + 1, none⟩ = some (.string x.name) ∧ W.cell? ⟨g, k * 5 + 2, none⟩ = some (.string x.peer) ∧ ∀ j, W.frozen? ⟨g, j, none⟩ = false) := hide (fun W hW => ⟨owns_cell hW (by rw [HL.out]) _ _ (HJ.out 1 (by omega) _ rfl), owns_cell hW (by rw [HL.out]) _ _ (HJ.out 2 (by omega) _ rfl), fun j => (owns_fresh hW).free g (by simp [vblocks, cellBlocks]) j⟩)
      obtain ⟨c1, c2, c3⟩ := HC.out wr hown
      clear hown hap hx
      go_wp2_with (first
        | ((fail_if_success (have := HO1)); go_at_call 39; refine (clone_calls x.name _ HFX.out.1).mono ?_; rintro e w1 ⟨rfl, hb1⟩; have HO1 := hide (HO.out.below hb1); have HA1 := hide (HA.out.trans (below_apart hb1)); obtain ⟨d1, d2, d3⟩ := HC.out w1 HO1.out; have HO2 := hide (nd_same HO1.out HL.out (k * 5 + 1) (.string x.name) (HJ.out 1 (by omega) _ rfl)); obtain ⟨e1, e2, e3⟩ := HC.out _ HO2.out; clear hb1)
        | (go_at_call 39; refine (clone_calls x.peer _ HFX.out.2).mono ?_; rintro e w2 ⟨rfl, hb2⟩; have HO3 := hide (HO2.out.below hb2); have HA3 := hide ((HA1.out.trans (setCell_apart w1 g (k * 5 + 1) (.string x.name))).trans (below_apart hb2)); obtain ⟨f1, f2, f3⟩ := HC.out w2 HO3.out; clear hb2))
      go_roundw
      case rel =>
        refine ⟨k + 1, hlt, by go_num, nd_same HO3.out HL.out (k * 5 + 2) (.string x.peer) (HJ.out 2 (by omega) _ rfl), ?_⟩
        have := HA3.out.trans (setCell_apart w2 g (k * 5 + 2) (.string x.peer))
        exact this.sub (by simp [vblocks, cellBlocks])
      case measure => simp [intOf]; omega
    · clear hown hap
      go_wp2_with fail
      go_ret
      exact ⟨rfl, HO.out, HA.out⟩
def outP : Obj := .cells #[.slice none 0 0, .int .i64 0] 37
/-- what PartOf answers: a row of its own -/
def PoAns (w w' : World) (e : Ending) (T : List Nd) (C : Int) : Prop := ∃ v', e = .returned (.agg #[v', .int .i64 C]) ∧ NdOwn w' w.heap.size v' T ∧ Below w.heap.size w w'
theorem set2 {B : Nat} {a w : World} (h : Below B a w) (y0 y1 : Value) : Below B a ((w.setCell ⟨B, 0, none⟩ y0).setCell ⟨B, 1, none⟩ y1) := (h.setCell (p := ⟨B, 0, none⟩) (Nat.le_refl _) _).setCell (p := ⟨B, 1, none⟩) (Nat.le_refl _) _
theorem ap2 (w : World) (B : Nat) (y0 y1 : Value) : Apart w ((w.setCell ⟨B, 0, none⟩ y0).setCell ⟨B, 1, none⟩ y1) [B] := (setCell_apart w B 0 y0).setCell 1 y1
theorem po_err {w w' : World} (C : Int) (hb : Below w.heap.size w w') : PoAns w w' (.returned (.agg #[.slice none 0 0, .int .i64 C])) [] C := ⟨_, rfl, owns_nil _ _ _ _, hb⟩
theorem nd_keep {w w' : World} {base : Nat} {v : Value} {l : List Nd} {bs : List Nat} (h : NdOwn w base v l) (hA : Apart w w' bs) (hn : ∀ b ∈ vblocks v, b ∉ bs) : NdOwn w' base v l := owns_keep h hA hn
set_option maxRecDepth 100000 in
set_option maxHeartbeats 2000000 in
theorem i_partOf (ns : List Nd) (role : ByteArray) (T : List Nd) (C : Int) (hpo : PoIs ns role T C) (v : Value) (w : World) (fit : ∀ n ∈ ns, n.fit) (hrole : role.size ≤ maxLen) (hv : SlAt w w.heap.size v ns) :
    Calls Tryz.prog 15 #[v, .string role] w fun e w' => PoAns w w' e T C := by
  have HV := hide hv
  have HFT := hide fit
  have HRO := hide hrole
  have hlm := hv.lenm
  unfold maxLen at hrole
  obtain ⟨ao, cap, rfl, hc, hm, hr⟩ := hv
  have HO : Hid (BoxL (w.alloc outP) w.heap.size [.slice none 0 0, .int .i64 0]) := hide (BoxL.new w [.slice none 0 0, .int .i64 0] 37)
  obtain ⟨N, hN⟩ : ∃ N, ns.length = N := ⟨_, rfl⟩
  have HN := hide hN
  clear hr fit
  rcases hpo with ⟨hbig, rfl, rfl⟩ | ⟨h1, h2, hpo⟩
  · rw [hN] at hbig hlm ⊢
    clear hN
    by_cases h4 : 400 < N
    · go_enter Tryz.func15, Tryz.ntmps15
      go_wp2_with fail
      refine bodyPost_ret (v := .agg #[.slice none 0 0, .int .i64 2]) (by simp [results, Tryz.results15, go_sem]) rfl ?_
      exact po_err 2 ((Below.refl _ _).alloc (Nat.le_refl _) _)
    · have h8 : 8000 < role.size := by omega
      go_enter Tryz.func15, Tryz.ntmps15
      go_wp2_with fail
      refine bodyPost_ret (v := .agg #[.slice none 0 0, .int .i64 2]) (by simp [results, Tryz.results15, go_sem]) rfl ?_
      exact po_err 2 ((Below.refl _ _).alloc (Nat.le_refl _) _)
  · obtain ⟨q1, hq1⟩ : ∃ q, rightB false ns = q := ⟨_, rfl⟩
    obtain ⟨q2, hq2⟩ : ∃ q, nameB role = q := ⟨_, rfl⟩
    rw [hq1, hq2] at hpo
    have HPR : Hid (∀ W, Below w.heap.size w W → Calls Tryz.prog 13 #[.slice ao N cap] W fun e w' => e = .returned (.bool q1) ∧ Below W.heap.size W w') := hide (fun W hb => by have := plan_right ns (.slice ao ns.length cap) W HFT.out ((HV.out.carry hb).up hb.size); rw [hq1, hN] at this; exact this)
    have HNR : Hid (∀ W, Calls Tryz.prog 24 #[.string role] W fun e w' => e = .returned (.bool q2) ∧ w' = W) := hide (fun W => by have := impl_name role W HRO.out; rw [hq2] at this; exact this)
    have HPO := hide hpo
    rw [hN] at h1 hlm ⊢
    clear hN hq1 hq2 hpo
    have hnc : ¬ 400 < N := by omega
    have hn8 : ¬ 8000 < role.size := by omega
    cases q1
    · have HTC : Hid (T = [] ∧ C = 1) := hide (by rcases HPO.out with ⟨_, h, h'⟩ | ⟨h, _⟩; exact ⟨h, h'⟩; cases h)
      go_enter Tryz.func15, Tryz.ntmps15
      go_wp2_with (go_at_call 13; refine (HPR.out _ (malloc1 w _)).mono ?_; rintro e w1 ⟨rfl, hb1⟩; have HB1 : Hid (Below w.heap.size w w1) := hide ((malloc1 w _).trans (hb1.mono (by simp))); have HO1 := hide (HO.out.keep (below_apart hb1) (by simp)); have b0 := HO1.out.cell 0 _ rfl; have b1 := HO1.out.cell 1 _ rfl; have bz := HO1.out.fz; clear hb1)
      refine bodyPost_ret (v := .agg #[.slice none 0 0, .int .i64 1]) (by simp [results, Tryz.results15, go_sem, b0, b1]) rfl ?_
      rw [HTC.out.1, HTC.out.2]
      exact po_err 1 (set2 HB1.out _ _)
    · cases q2
      · have HTC : Hid (T = [] ∧ C = 1) := hide (by rcases HPO.out with ⟨_, h, h'⟩ | ⟨h, _⟩; exact ⟨h, h'⟩; cases h)
        go_enter Tryz.func15, Tryz.ntmps15
        go_wp2_with (first
          | (go_at_call 13; refine (HPR.out _ (malloc1 w _)).mono ?_; rintro e w1 ⟨rfl, hb1⟩; have HB1 : Hid (Below w.heap.size w w1) := hide ((malloc1 w _).trans (hb1.mono (by simp))); have HO1 := hide (HO.out.keep (below_apart hb1) (by simp)); have b0 := HO1.out.cell 0 _ rfl; have b1 := HO1.out.cell 1 _ rfl; have bz := HO1.out.fz; clear hb1)
          | (go_at_call 24; refine (HNR.out _).mono ?_; rintro e w2 ⟨rfl, hw2⟩; subst w2))
        refine bodyPost_ret (v := .agg #[.slice none 0 0, .int .i64 1]) (by simp [results, Tryz.results15, go_sem, b0, b1]) rfl ?_
        rw [HTC.out.1, HTC.out.2]
        exact po_err 1 (set2 HB1.out _ _)
      · obtain ⟨p, hp, hpl, h40, hres⟩ : ∃ p : Pn 10, ns = rowN 10 p ∧ planN 10 p ∧ ns.length ≤ 40 ∧ ((partN role 10 p = none ∧ T = [] ∧ C = 11) ∨ ∃ z, partN role 10 p = some z ∧ T = rowN 10 z ∧ C = 0) := by
          rcases HPO.out with ⟨h, _⟩ | ⟨_, h⟩
          · cases h
          · exact h
        have hfit : fitL (rowN 10 p) := by rw [← hp]; exact HFT.out
        have HPA : Hid (∀ W, Below w.heap.size w W → Calls Tryz.prog 25 #[.slice ao N cap] W fun e w' => Pieced W w' w.heap.size e 10 p []) := hide (fun W hb => by
          have := piece_ahead 10 p hpl [] (.slice ao N cap) W w.heap.size hb.size (by rw [List.append_nil, ← hp, ← HN.out]; exact HV.out.carry hb)
          exact this)
        have HPC : Hid (∀ (W : World) (S : Nat → Prop) (u : Value), (∀ g, S g → g < W.heap.size) → PcAt W S 10 p u → Calls Tryz.prog 26 #[u, .string role] W fun e w' => Merged 10 S W w' e (partN role 10 p)) := hide (fun W S u hS hu => part_calls role 10 S p u W hS hpl (by rw [← hp]; exact h40) hfit hu)
        rcases hres with ⟨hnone, rfl, rfl⟩ | ⟨z, hsome, rfl, rfl⟩
        · rw [hnone] at HPC
          go_enter Tryz.func15, Tryz.ntmps15
          go_wp2_with (first
            | (go_at_call 13; refine (HPR.out _ (malloc1 w _)).mono ?_; rintro e w1 ⟨rfl, hb1⟩; have HB1 : Hid (Below w.heap.size w w1) := hide ((malloc1 w _).trans (hb1.mono (by simp))); have HO1 := hide (HO.out.keep (below_apart hb1) (by simp)); clear hb1)
            | (go_at_call 24; refine (HNR.out _).mono ?_; rintro e w2 ⟨rfl, hw2⟩; subst w2)
            | (go_at_call 25; refine (HPA.out _ HB1.out).mono ?_; rintro e w3 ⟨u3, v3, rfl, h3a, h3b, h3c⟩; have H3A := hide h3a; have HB3 : Hid (Below w.heap.size w w3) := hide (HB1.out.trans (h3c.mono HB1.out.size)); have HO3 := hide (HO1.out.keep (below_apart h3c) (by simp)); obtain ⟨t3, a3, rfl⟩ := h3a.shape; obtain ⟨x3, y3, rfl, -⟩ := h3b; clear h3a h3c)
            | (go_at_call 26; refine (HPC.out _ _ _ (fun g hg => hg.2) H3A.out).mono ?_; rintro e w4 ⟨q4, rfl, h4a, h4b, h4c⟩; have HB4 : Hid (Below w.heap.size w w4) := hide (HB3.out.trans (h4b.mono HB3.out.size)); have HO4 := hide (HO3.out.keep (below_apart h4b) (by simp)); have b0 := HO4.out.cell 0 _ rfl; have b1 := HO4.out.cell 1 _ rfl; have bz := HO4.out.fz; clear h4a h4b; rcases h4c with rfl | ⟨t4, a4, rfl⟩))
          all_goals
            refine bodyPost_ret (v := .agg #[.slice none 0 0, .int .i64 11]) (by simp [results, Tryz.results15, go_sem, b0, b1]) rfl ?_
            exact po_err 11 (set2 HB4.out _ _)
        · rw [hsome] at HPC
          have hsz := part_sz role 10 p z hpl hsome
          have hz40 : (rowN 10 z).length ≤ 40 := by have := hsz.1; rw [← hp] at this; omega
          have HZF : Hid (fitL (rowN 10 z)) := hide (hsz.2 hfit)
          have HSH : Hid (shapeN 10 z) := hide (part_shape role 10 p z hpl hsome)
          have HZL := hide hz40
          obtain ⟨ZR, hZR⟩ : ∃ ZR, rowN 10 z = ZR := ⟨_, rfl⟩
          have HRB : Hid (∀ (W : World) (S : Nat → Prop) (u : Value), (∀ g, S g → g < W.heap.size) → PcAt W S 10 z u → RowBy u W ZR) := hide (fun W S u hS hu => by rw [← hZR]; exact row_by HSH.out hS hu (by have := HZL.out; omega))
          rw [hZR] at HZF HZL ⊢
          clear hZR hfit hsz hsome hz40
          go_enter Tryz.func15, Tryz.ntmps15
          go_wp2_with (first
            | (go_at_call 13; refine (HPR.out _ (malloc1 w _)).mono ?_; rintro e w1 ⟨rfl, hb1⟩; have HB1 : Hid (Below w.heap.size w w1) := hide ((malloc1 w _).trans (hb1.mono (by simp))); have HO1 := hide (HO.out.keep (below_apart hb1) (by simp)); have HZ1 : Hid (w.heap.size + 1 ≤ w1.heap.size) := hide (by have := hb1.size; simpa using this); clear hb1)
            | (go_at_call 24; refine (HNR.out _).mono ?_; rintro e w2 ⟨rfl, hw2⟩; subst w2)
            | (go_at_call 25; refine (HPA.out _ HB1.out).mono ?_; rintro e w3 ⟨u3, v3, rfl, h3a, h3b, h3c⟩; have H3A := hide h3a; have HB3 : Hid (Below w.heap.size w w3) := hide (HB1.out.trans (h3c.mono HB1.out.size)); have HZ3 : Hid (w.heap.size + 1 ≤ w3.heap.size) := hide (Nat.le_trans HZ1.out h3c.size); have HO3 := hide (HO1.out.keep (below_apart h3c) (by simp)); obtain ⟨t3, a3, rfl⟩ := h3a.shape; obtain ⟨x3, y3, rfl, -⟩ := h3b; clear h3a h3c)
            | (go_at_call 26; refine (HPC.out _ _ _ (fun g hg => hg.2) H3A.out).mono ?_; rintro e w4 ⟨q4, rfl, h4a, h4b, h4c⟩; have HB4 : Hid (Below w.heap.size w w4) := hide (HB3.out.trans (h4b.mono HB3.out.size)); have HZ4 : Hid (w.heap.size + 1 ≤ w4.heap.size) := hide (Nat.le_trans HZ3.out h4b.size); have HO4 := hide (HO3.out.keep (below_apart h4b) (by simp)); have hrb := HRB.out w4 _ q4 (fun g hg => hg.elim (fun k => Nat.lt_of_lt_of_le k.2 h4b.size) (fun k => k.2)) (h4a z rfl); obtain ⟨T1, a1, K1, rfl, hm1, hcf1, hcall1⟩ := hrb; have HC1 := hide hcall1; clear h4a h4b h4c hcall1)
            | (go_at_call 27; refine (own_texts ZR w4.heap.size _ w5 H5.out (by have := HZL.out; omega) HZF.out).mono ?_; rintro e w6 ⟨rfl, h6a, h6b⟩; have H6A := hide h6a; have HL6 := (owns_fresh H5.out).lo; have HB6 : Hid (Below w.heap.size w w6) := hide (HB5.out.trans (h6b.below HB5.out.size (fun b hb => Nat.le_trans HB4.out.size (HL6 b hb)))); have HO6 := hide (HO5.out.keep h6b (fun hm => by have := HL6 _ hm; have := HZ4.out; omega)); have b0 := HO6.out.cell 0 _ rfl; have b1 := HO6.out.cell 1 _ rfl; have bz := HO6.out.fz; clear h6a h6b HL6)
            | ((fail_if_success (have := H5)); refine Calls.mono (HC1.out w4 (Below.refl _ _)) ?_; rintro e w5 ⟨v5, rfl, h5a, h5b⟩; have H5 := hide h5a; have HB5 : Hid (Below w.heap.size w w5) := hide (HB4.out.trans (h5b.mono HB4.out.size)); have HO5 := hide (HO4.out.keep (below_apart h5b) (by simp)); obtain ⟨p5, c5, rfl⟩ := owns_shape h5a; clear h5a h5b))
          refine bodyPost_ret (v := .agg #[.slice p5 ZR.length c5, .int .i64 0]) (by simp [results, Tryz.results15, go_sem, b0, b1]) rfl ?_
          refine ⟨_, rfl, ?_, set2 HB6.out _ _⟩
          exact owns_down (nd_keep H6A.out (ap2 w6 w.heap.size _ _) (fun b hb hm => by simp at hm; have := (owns_fresh H6A.out).lo b hb; have := HZ4.out; omega)) HB4.out.size
end Go.Proofs.YtehodjfgojcnlaaGreat
/- The law's own helpers over rows of Nodes: how great they are, their copies, whether two are alike. -/
namespace Go.Proofs.YtehodjfgojcnlaaGreat
open Go.RowKit

theorem Tryz.infoN : (Tryz.prog.info? 32).map (fun i => (i.zero, i.size, i.bytes)) = some (some (.agg #[.int .i64 0, .string ByteArray.empty, .string ByteArray.empty, .int .i64 0, .int .i64 0]), 5, 56) := by kernel_rfl

set_option maxHeartbeats 400000 in
theorem to_node (n : Nd) (w : World) :
    Calls Tryz.prog 12 #[n.val] w fun e w' => e = .returned n.val ∧ Below w.heap.size w w' := by
  have hi : (Tryz.prog.info? 32).map (·.size) = some 5 := by
    obtain ⟨i0, hi, _, hz1, _⟩ := info_parts Tryz.infoN
    rw [hi]; simp [hz1]
  have HI := hide hi
  clear hi
  unfold Nd.val
  go_enter Tryz.func12, Tryz.ntmps12
  go_wp2_with fail
  refine bodyPost_ret_by (results_cell_row rfl _ _ (w.heap.size + 1) 32 #[.int .i64 n.op, .string n.name, .string n.peer, .int .i64 n.many, .int .i64 n.sort] (0, 0) _ rfl ?_ Tryz.underlying32 rfl HI.out) rfl ⟨rfl, ((alloc1 _ _).trans ((alloc1 _ _).mono (by simp))).trans ((alloc1 _ _).mono (by simp; omega))⟩
  rw [heap_old _ _ _ (by simp), heap_new _ _ _ (by simp)]

def putNode (w : World) (g p : Nat) (n : Nd) : World := ((((w.setCell ⟨g, p, none⟩ (.int .i64 n.op)).setCell ⟨g, p + 1, none⟩ (.string n.name)).setCell ⟨g, p + 2, none⟩ (.string n.peer)).setCell ⟨g, p + 3, none⟩ (.int .i64 n.many)).setCell ⟨g, p + 4, none⟩ (.int .i64 n.sort)
theorem put_other (w : World) (g p : Nat) (n : Nd) (a : Addr) (h : ∀ i, i < 5 → a ≠ ⟨g, p + i, none⟩) : (putNode w g p n).cell? a = w.cell? a := by
  unfold putNode
  rw [World.cell?_setCell_other _ _ _ _ (Ne.symm (h 4 (by omega))), World.cell?_setCell_other _ _ _ _ (Ne.symm (h 3 (by omega))), World.cell?_setCell_other _ _ _ _ (Ne.symm (h 2 (by omega))), World.cell?_setCell_other _ _ _ _ (Ne.symm (h 1 (by omega))), World.cell?_setCell_other _ ⟨g, p, none⟩ _ _ (Ne.symm (h 0 (by omega)))]
theorem put_node (w : World) (g p : Nat) (n : Nd) (hc : ∀ i, i < 5 → ∃ x, w.cell? ⟨g, p + i, none⟩ = some x) : NodeAt (putNode w g p n) g p n := by
  obtain ⟨x0, h0⟩ := hc 0 (by omega)
  obtain ⟨x1, h1⟩ := hc 1 (by omega)
  obtain ⟨x2, h2⟩ := hc 2 (by omega)
  obtain ⟨x3, h3⟩ := hc 3 (by omega)
  obtain ⟨x4, h4⟩ := hc 4 (by omega)
  unfold putNode
  refine ⟨?_, ?_, ?_, ?_, ?_⟩
  · rw [World.cell?_setCell_other _ _ _ _ (by simp), World.cell?_setCell_other _ _ _ _ (by simp), World.cell?_setCell_other _ _ _ _ (by simp), World.cell?_setCell_other _ _ _ _ (by simp)]
    exact World.cell?_setCell_same _ _ _ h0
  · rw [World.cell?_setCell_other _ _ _ _ (by simp), World.cell?_setCell_other _ _ _ _ (by simp), World.cell?_setCell_other _ _ _ _ (by simp)]
    exact World.cell?_setCell_same _ _ _ (u := x1) (by rw [World.cell?_setCell_other _ _ _ _ (by simp)]; exact h1)
  · rw [World.cell?_setCell_other _ _ _ _ (by simp), World.cell?_setCell_other _ _ _ _ (by simp)]
    exact World.cell?_setCell_same _ _ _ (u := x2) (by rw [World.cell?_setCell_other _ _ _ _ (by simp), World.cell?_setCell_other _ _ _ _ (by simp)]; exact h2)
  · rw [World.cell?_setCell_other _ _ _ _ (by simp)]
    exact World.cell?_setCell_same _ _ _ (u := x3) (by rw [World.cell?_setCell_other _ _ _ _ (by simp), World.cell?_setCell_other _ _ _ _ (by simp), World.cell?_setCell_other _ _ _ _ (by simp)]; exact h3)
  · exact World.cell?_setCell_same _ _ _ (u := x4) (by rw [World.cell?_setCell_other _ _ _ _ (by simp), World.cell?_setCell_other _ _ _ _ (by simp), World.cell?_setCell_other _ _ _ _ (by simp), World.cell?_setCell_other _ _ _ _ (by simp)]; exact h4)
theorem put_below {B : Nat} {a w : World} (h : Below B a w) {g : Nat} (hg : B ≤ g) (p : Nat) (n : Nd) : Below B a (putNode w g p n) :=
  ((((h.setCell (p := ⟨g, p, none⟩) hg _).setCell (p := ⟨g, p + 1, none⟩) hg _).setCell (p := ⟨g, p + 2, none⟩) hg _).setCell (p := ⟨g, p + 3, none⟩) hg _).setCell (p := ⟨g, p + 4, none⟩) hg _
theorem put_size (w : World) (g p : Nat) (n : Nd) : (putNode w g p n).heap.size = w.heap.size := by simp [putNode]
theorem put_frozen (w : World) (g p : Nat) (n : Nd) (a : Addr) : (putNode w g p n).frozen? a = w.frozen? a := by simp [putNode]
theorem rowsOf (w : World) (g : Nat) : ∀ (ns : List Nd) (o : Nat), (∀ j (h : j < ns.length), NodeAt w g (o + j * 5) ns[j]) → RowAt w g o ns
  | [], _, _ => trivial
  | n :: ns, o, h => ⟨by have := h 0 (by simp); simpa only [Nat.zero_mul, Nat.add_zero, List.getElem_cons_zero] using this, rowsOf w g ns (o + 5) (fun j hj => by
      have := h (j + 1) (by simpa using hj)
      rw [show o + (j + 1) * 5 = o + 5 + j * 5 from by omega] at this
      simpa only [List.getElem_cons_succ] using this)⟩
theorem madeN (n : Nat) : (madeCells (Value.agg #[.int .i64 0, .string ByteArray.empty, .string ByteArray.empty, .int .i64 0, .int .i64 0]).cells n).size = n := size_madeCells _ _

set_option maxHeartbeats 2000000 in
set_option maxRecDepth 100000 in
theorem to_nodes (ns : List Nd) (ao : Option Addr) (cap : Nat) (w : World) (hl : ns.length ≤ 1048576) (hr : ns ≠ [] → ∃ b o, ao = some ⟨b, o, none⟩ ∧ b < w.heap.size ∧ RowAt w b o ns) :
    Calls Tryz.prog 6 #[.slice ao ns.length cap] w fun e w' => ∃ v', e = .returned v' ∧ SlAt w' w'.heap.size v' ns ∧ Below w.heap.size w w' := by
  have HR := hide hr
  obtain ⟨i0, hi, hz0, hz1, hz2⟩ := info_parts Tryz.infoN
  obtain ⟨M, hM⟩ : ∃ M, M = madeCells (Value.agg #[.int .i64 0, .string ByteArray.empty, .string ByteArray.empty, .int .i64 0, .int .i64 0]).cells (ns.length * 5) := ⟨_, rfl⟩
  have hMs : M.size = ns.length * 5 := by rw [hM, madeN]
  have hmk : ∀ W : World, (Instr.makeSlice 25 (.int .i64 (ns.length : Int)) (.int .i64 (ns.length : Int))).run Tryz.prog W = .ok (.slice (some ⟨W.heap.size, 0, none⟩) ns.length ns.length) (W.alloc (.cells M 32)) := fun W => by
    have h := run_make (P := Tryz.prog) W 25 32 i0 _ Tryz.underlying25 hi hz0 .i64 .i64 (ns.length : Int) (ns.length : Int) (by omega) (by omega) (by rw [hz2]; omega) (by omega)
    rw [hz1] at h
    simp only [Int.toNat_natCast] at h
    rw [← hM] at h
    exact h
  have HMS := hide hMs
  clear hr hM hMs hi hz0 hz1 hz2
  have HLL := hide hl
  go_enter Tryz.func6, Tryz.ntmps6
  go_wp2_with fail
  go_loopw [4] (fun i wr => ∃ k : Nat, k ≤ ns.length ∧ i = .int .i64 k ∧ (∀ j (h : j < ns.length), j < k → NodeAt wr w.heap.size (j * 5) ns[j]) ∧ (∀ j, j < ns.length * 5 → ∃ x, wr.cell? ⟨w.heap.size, j, none⟩ = some x) ∧ (∀ j, wr.frozen? ⟨w.heap.size, j, none⟩ = false) ∧ w.heap.size < wr.heap.size ∧ Below w.heap.size w wr)
    (fun i _ => ns.length - (intOf i).toNat)
  case atStart =>
    refine ⟨0, Nat.zero_le _, rfl, fun j _ h => absurd h (by omega), fun j hj => ?_, fun j => ?_, by simp, alloc1 _ _⟩
    · rw [← HMS.out] at hj
      exact ⟨M[j], by simp [hj]⟩
    · simp
  case round =>
    obtain ⟨k, hk, rfl, hall, hcells, hfro, hsz, hbel⟩ := hrel
    have HA := hide hall
    have HC := hide hcells
    have HFR := hide hfro
    have HBEL := hide hbel
    clear hall hbel
    by_cases hlt : k < ns.length
    · obtain ⟨b, o, rfl, hbB, hrow⟩ := HR.out (by intro h; simp [h] at hlt)
      have hnode := (hrow.get k hlt).carry hbB HBEL.out
      obtain ⟨n1, hn1⟩ : ∃ n1, n1 = ns[k] := ⟨_, rfl⟩
      rw [← hn1] at hnode
      have HN := hide hn1
      clear hn1 hrow
      have hbw : b < wr.heap.size := hnode.lt
      obtain ⟨c0, c1, c2, c3, c4⟩ := hnode
      obtain ⟨y0, g0⟩ := hcells (k * 5) (by omega)
      obtain ⟨y1, g1⟩ := hcells (k * 5 + 1) (by omega)
      obtain ⟨y2, g2⟩ := hcells (k * 5 + 2) (by omega)
      obtain ⟨y3, g3⟩ := hcells (k * 5 + 3) (by omega)
      obtain ⟨y4, g4⟩ := hcells (k * 5 + 4) (by omega)
      have HG := hide (And.intro g0 (And.intro g1 (And.intro g2 (And.intro g3 g4))))
      clear hcells hfro g0 g1 g2 g3 g4
      go_wp2_with (go_at_call 12; refine (to_node n1 _).mono ?_; rintro e w1 ⟨rfl, hb1⟩; unfold Nd.val; have hs1 := hb1.size; have HF1 : Hid (∀ j, w1.frozen? ⟨w.heap.size, j, none⟩ = false) := hide (fun j => (hb1.frozen (p := ⟨w.heap.size, j, none⟩) hsz).trans (HFR.out j)); have HC1 : Hid (∀ j, w1.cell? ⟨w.heap.size, j, none⟩ = wr.cell? ⟨w.heap.size, j, none⟩) := hide (fun j => hb1.cell (p := ⟨w.heap.size, j, none⟩) hsz); have g0 := (HC1.out (k * 5)).trans HG.out.1; have g1 := (HC1.out (k * 5 + 1)).trans HG.out.2.1; have g2 := (HC1.out (k * 5 + 2)).trans HG.out.2.2.1; have g3 := (HC1.out (k * 5 + 3)).trans HG.out.2.2.2.1; have g4 := (HC1.out (k * 5 + 4)).trans HG.out.2.2.2.2; have f0 := HF1.out (k * 5); have f1 := HF1.out (k * 5 + 1); have f2 := HF1.out (k * 5 + 2); have f3 := HF1.out (k * 5 + 3); have f4 := HF1.out (k * 5 + 4); have HB1 := hide hb1; clear hb1)
      go_roundw
      case rel =>
        have e := hide (show ((((w1.setCell ⟨w.heap.size, k * 5, none⟩ (.int .i64 n1.op)).setCell ⟨w.heap.size, k * 5 + 1, none⟩ (.string n1.name)).setCell ⟨w.heap.size, k * 5 + 2, none⟩ (.string n1.peer)).setCell ⟨w.heap.size, k * 5 + 3, none⟩ (.int .i64 n1.many)).setCell ⟨w.heap.size, k * 5 + 4, none⟩ (.int .i64 n1.sort) = putNode w1 w.heap.size (k * 5) n1 from rfl)
        rw [e.out]
        have hex : ∀ i, i < 5 → ∃ x, w1.cell? ⟨w.heap.size, k * 5 + i, none⟩ = some x := fun i hi => by rw [HC1.out]; exact HC.out _ (by omega)
        have hnew := put_node w1 w.heap.size (k * 5) n1 hex
        have hoth : ∀ j, (j < k * 5 ∨ k * 5 + 5 ≤ j) → (putNode w1 w.heap.size (k * 5) n1).cell? ⟨w.heap.size, j, none⟩ = wr.cell? ⟨w.heap.size, j, none⟩ := fun j hj => by
          rw [put_other _ _ _ _ _ (fun i hi h => by injection h with h1 h2; omega), HC1.out]
        refine ⟨k + 1, by omega, by go_num, fun j hj hjk => ?_, fun j hj => ?_, fun j => by rw [put_frozen]; exact HF1.out j, by rw [put_size]; omega, put_below (HBEL.out.trans (HB1.out.mono HBEL.out.size)) (Nat.le_refl _) _ _⟩
        · by_cases hjk' : j = k
          · subst hjk'; rw [← HN.out]; exact hnew
          · obtain ⟨a0, a1, a2, a3, a4⟩ := HA.out j hj (by omega)
            exact ⟨(hoth _ (by omega)).trans a0, (hoth _ (by omega)).trans a1, (hoth _ (by omega)).trans a2, (hoth _ (by omega)).trans a3, (hoth _ (by omega)).trans a4⟩
        · by_cases hin : j < k * 5 ∨ k * 5 + 5 ≤ j
          · rw [hoth j hin]; exact HC.out j hj
          · obtain ⟨a0, a1, a2, a3, a4⟩ := hnew
            rcases (show j = k * 5 ∨ j = k * 5 + 1 ∨ j = k * 5 + 2 ∨ j = k * 5 + 3 ∨ j = k * 5 + 4 by omega) with h | h | h | h | h
            · subst h; exact ⟨_, a0⟩
            · subst h; exact ⟨_, a1⟩
            · subst h; exact ⟨_, a2⟩
            · subst h; exact ⟨_, a3⟩
            · subst h; exact ⟨_, a4⟩
      case measure => simp [intOf]; omega
    · go_wp2_with fail
      go_ret
      refine ⟨_, rfl, ⟨_, _, rfl, Nat.le_refl _, by omega, fun hne => ⟨w.heap.size, 0, rfl, hsz, ?_⟩⟩, HBEL.out⟩
      exact rowsOf _ _ ns 0 (fun j hj => by rw [Nat.zero_add]; exact HA.out j hj (by omega))
end Go.Proofs.YtehodjfgojcnlaaGreat
