import Derived.Test.YtmjlblbhakppfaaGreatDoorQP37
import Derived.Test.YtmjlblbhakppfaaGreatDoorQP14
import Derived.Test.YtmjlblbhakppfaaGreatDoorQP15
namespace Go.Proofs.YtmjlblbhakppfaaGreatDoor
open Go.RowKit
attribute [local go_sem ↓] Go.wp_at_zero Go.wp_at_succ

theorem set_same {α : Type} : ∀ {l : List α} {j : Nat} {u : α}, l[j]? = some u → l.set j u = l
  | [], _, _, h => by simp at h
  | a :: l, 0, u, h => by simp at h; subst h; rfl
  | a :: l, j + 1, u, h => by rw [List.getElem?_cons_succ] at h; rw [List.set_cons_succ, set_same h]
theorem nd_sameP {w : World} {base g L c : Nat} {l : List Nd} (h : NdOwn w base (.slice (some ⟨g, 0, none⟩) L c) l) (hL : l.length = L) (j : Nat) (u : Value) (hj : (l.flatMap Nd.cells)[j]? = some u) : NdOwn (w.setCell ⟨g, j, none⟩ u) base (.slice (some ⟨g, 0, none⟩) L c) l := by
  unfold NdOwn at h ⊢
  rw [hL] at h ⊢
  have := (World.ownsRow.stored h j u).1
  rw [set_same hj] at this
  exact this
set_option maxRecDepth 100000 in
set_option maxHeartbeats 2000000 in
theorem own_texts (l : List Nd) (base : Nat) (v : Value) (w : World) (h : NdOwn w base v l) (hl : l.length ≤ 1000) (hf : fitL l) :
    Calls Tryz.prog 60 #[v] w fun e w' => e = .returned v ∧ NdOwn w' base v l ∧ Apart w w' (vblocks v) := by
  obtain ⟨p, c, hv⟩ := owns_shape h
  obtain ⟨L, hL⟩ : ∃ L, l.length = L := ⟨_, rfl⟩
  rw [hL] at hv hl
  have HL := hide hL
  subst hv
  have HH := hide h
  have HF := hide hf
  clear h hf hL
  go_enter Tryz.func60, Tryz.ntmps60
  go_wp2_with fail
  go_loopw [6] (fun i wr => ∃ k : Nat, k ≤ L ∧ i = .int .i64 k ∧ NdOwn wr base (.slice p L c) l ∧ Apart w wr (vblocks (.slice p L c))) (fun i _ => L - (intOf i).toNat)
  case atStart => exact ⟨0, Nat.zero_le _, rfl, HH.out, (Apart.refl w).sub (by simp)⟩
  case round =>
    obtain ⟨k, hk, rfl, hown, hap⟩ := hrel
    have HO := hide hown
    have HA := hide hap
    by_cases hlt : k < L
    · obtain ⟨g, hg⟩ : ∃ g, p = some ⟨g, 0, none⟩ := by
        rcases hown.2 with ⟨h0, h1⟩ | ⟨g', cap', cur', hv', _⟩
        · rw [HL.out] at h1; omega
        · injection hv' with hv' _ _; exact ⟨g', hv'⟩
      subst hg
      have hkl : k < l.length := by rw [HL.out]; exact hlt
      obtain ⟨x, hx⟩ : ∃ x, l[k] = x := ⟨_, rfl⟩
      have HFX : Hid x.fit := hide (by rw [← hx]; exact HF.out _ (List.getElem_mem hkl))
      have HJ : Hid (∀ i (hi : i < 5) (u : Value), x.cells[i]? = some u → (l.flatMap Nd.cells)[k * 5 + i]? = some u) := hide (fun i hi u hu => (flat_get Nd.cells 5 Nd.cells_len l k hkl i hi).trans (by rw [hx]; exact hu))
      have HC : Hid (∀ W, NdOwn W base (.slice (some ⟨g, 0, none⟩) L c) l → W.cell? ⟨g, k * 5 + 1, none⟩ = some (.string x.name) ∧ W.cell? ⟨g, k * 5 + 2, none⟩ = some (.string x.peer) ∧ ∀ j, W.frozen? ⟨g, j, none⟩ = false) := hide (fun W hW => ⟨owns_cell hW (by rw [HL.out]) _ _ (HJ.out 1 (by omega) _ rfl), owns_cell hW (by rw [HL.out]) _ _ (HJ.out 2 (by omega) _ rfl), fun j => (owns_fresh hW).free g (by simp [vblocks, cellBlocks]) j⟩)
      obtain ⟨c1, c2, c3⟩ := HC.out wr hown
      clear hown hap hx
      go_wp2_with (first
        | ((fail_if_success (have := HO1)); go_at_call 76; refine (clone_calls x.name _ HFX.out.1).mono ?_; rintro e w1 ⟨rfl, hb1⟩; have HO1 := hide (HO.out.below hb1); have HA1 := hide (HA.out.trans (below_apart hb1)); obtain ⟨d1, d2, d3⟩ := HC.out w1 HO1.out; have HO2 := hide (nd_sameP HO1.out HL.out (k * 5 + 1) (.string x.name) (HJ.out 1 (by omega) _ rfl)); obtain ⟨e1, e2, e3⟩ := HC.out _ HO2.out; clear hb1)
        | (go_at_call 76; refine (clone_calls x.peer _ HFX.out.2).mono ?_; rintro e w2 ⟨rfl, hb2⟩; have HO3 := hide (HO2.out.below hb2); have HA3 := hide ((HA1.out.trans (setCell_apart w1 g (k * 5 + 1) (.string x.name))).trans (below_apart hb2)); obtain ⟨f1, f2, f3⟩ := HC.out w2 HO3.out; clear hb2))
      go_roundw
      case rel =>
        refine ⟨k + 1, hlt, by go_num, nd_sameP HO3.out HL.out (k * 5 + 2) (.string x.peer) (HJ.out 2 (by omega) _ rfl), ?_⟩
        have := HA3.out.trans (setCell_apart w2 g (k * 5 + 2) (.string x.peer))
        exact this.sub (by simp [vblocks, cellBlocks])
      case measure => simp [intOf]; omega
    · clear hown hap
      go_wp2_with fail
      go_ret
      exact ⟨rfl, HO.out, HA.out⟩
def outP : Obj := .cells #[.slice none 0 0, .int .i64 0] 41
def PoAns (w w' : World) (e : Ending) (T : List Nd) (C : Int) : Prop := ∃ v', e = .returned (.agg #[v', .int .i64 C]) ∧ NdOwn w' w.heap.size v' T ∧ Below w.heap.size w w'
theorem set2 {B : Nat} {a w : World} (h : Below B a w) (y0 y1 : Value) : Below B a ((w.setCell ⟨B, 0, none⟩ y0).setCell ⟨B, 1, none⟩ y1) := (h.setCell (p := ⟨B, 0, none⟩) (Nat.le_refl _) _).setCell (p := ⟨B, 1, none⟩) (Nat.le_refl _) _
theorem ap2 (w : World) (B : Nat) (y0 y1 : Value) : Apart w ((w.setCell ⟨B, 0, none⟩ y0).setCell ⟨B, 1, none⟩ y1) [B] := (setCell_apart w B 0 y0).setCell 1 y1
theorem po_err {w w' : World} (C : Int) (hb : Below w.heap.size w w') : PoAns w w' (.returned (.agg #[.slice none 0 0, .int .i64 C])) [] C := ⟨_, rfl, owns_nil _ _ _ _, hb⟩
theorem nd_keep {w w' : World} {base : Nat} {v : Value} {l : List Nd} {bs : List Nat} (h : NdOwn w base v l) (hA : Apart w w' bs) (hn : ∀ b ∈ vblocks v, b ∉ bs) : NdOwn w' base v l := owns_keep h hA hn
set_option maxRecDepth 100000 in
set_option maxHeartbeats 2000000 in
theorem i_partOf (ns : List Nd) (role : ByteArray) (T : List Nd) (C : Int) (hpo : PoIs ns role T C) (v : Value) (w : World) (fit : ∀ n ∈ ns, n.fit) (hrole : role.size ≤ maxLen) (hv : SlAt w w.heap.size v ns) :
    Calls Tryz.prog 27 #[v, .string role] w fun e w' => PoAns w w' e T C := by
  have HV := hide hv
  have HFT := hide fit
  have HRO := hide hrole
  have hlm := hv.lenm
  unfold maxLen at hrole
  obtain ⟨ao, cap, rfl, hc, hm, hr⟩ := hv
  have HO : Hid (BoxL (w.alloc outP) w.heap.size [.slice none 0 0, .int .i64 0]) := hide (BoxL.new w [.slice none 0 0, .int .i64 0] 41)
  obtain ⟨N, hN⟩ : ∃ N, ns.length = N := ⟨_, rfl⟩
  have HN := hide hN
  clear hr fit
  rcases hpo with ⟨hbig, rfl, rfl⟩ | ⟨h1, h2, hpo⟩
  · rw [hN] at hbig hlm ⊢
    clear hN
    by_cases h4 : 400 < N
    · go_enter Tryz.func27, Tryz.ntmps27
      go_wp2_with fail
      refine bodyPost_ret (v := .agg #[.slice none 0 0, .int .i64 2]) (by simp [results, Tryz.results27, go_sem]) rfl ?_
      exact po_err 2 ((Below.refl _ _).alloc (Nat.le_refl _) _)
    · have h8 : 8000 < role.size := by omega
      go_enter Tryz.func27, Tryz.ntmps27
      go_wp2_with fail
      refine bodyPost_ret (v := .agg #[.slice none 0 0, .int .i64 2]) (by simp [results, Tryz.results27, go_sem]) rfl ?_
      exact po_err 2 ((Below.refl _ _).alloc (Nat.le_refl _) _)
  · obtain ⟨q1, hq1⟩ : ∃ q, rightB false ns = q := ⟨_, rfl⟩
    obtain ⟨q2, hq2⟩ : ∃ q, nameB role = q := ⟨_, rfl⟩
    rw [hq1, hq2] at hpo
    have HPR : Hid (∀ W, Below w.heap.size w W → Calls Tryz.prog 12 #[.slice ao N cap] W fun e w' => e = .returned (.bool q1) ∧ Below W.heap.size W w') := hide (fun W hb => by have := plan_right ns (.slice ao ns.length cap) W HFT.out ((HV.out.carry hb).up hb.size); rw [hq1, hN] at this; exact this)
    have HNR : Hid (∀ W, Calls Tryz.prog 57 #[.string role] W fun e w' => e = .returned (.bool q2) ∧ w' = W) := hide (fun W => by have := impl_name role W HRO.out; rw [hq2] at this; exact this)
    have HPO := hide hpo
    rw [hN] at h1 hlm ⊢
    clear hN hq1 hq2 hpo
    have hnc : ¬ 400 < N := by omega
    have hn8 : ¬ 8000 < role.size := by omega
    cases q1
    · have HTC : Hid (T = [] ∧ C = 1) := hide (by rcases HPO.out with ⟨_, h, h'⟩ | ⟨h, _⟩; exact ⟨h, h'⟩; cases h)
      go_enter Tryz.func27, Tryz.ntmps27
      go_wp2_with (go_at_call 12; refine (HPR.out _ (malloc1 w _)).mono ?_; rintro e w1 ⟨rfl, hb1⟩; have HB1 : Hid (Below w.heap.size w w1) := hide ((malloc1 w _).trans (hb1.mono (by simp))); have HO1 := hide (HO.out.keep (below_apart hb1) (by simp)); have b0 := HO1.out.cell 0 _ rfl; have b1 := HO1.out.cell 1 _ rfl; have bz := HO1.out.fz; clear hb1)
      refine bodyPost_ret (v := .agg #[.slice none 0 0, .int .i64 1]) (by simp [results, Tryz.results27, go_sem, b0, b1]) rfl ?_
      rw [HTC.out.1, HTC.out.2]
      exact po_err 1 (set2 HB1.out _ _)
    · cases q2
      · have HTC : Hid (T = [] ∧ C = 1) := hide (by rcases HPO.out with ⟨_, h, h'⟩ | ⟨h, _⟩; exact ⟨h, h'⟩; cases h)
        go_enter Tryz.func27, Tryz.ntmps27
        go_wp2_with (first
          | (go_at_call 12; refine (HPR.out _ (malloc1 w _)).mono ?_; rintro e w1 ⟨rfl, hb1⟩; have HB1 : Hid (Below w.heap.size w w1) := hide ((malloc1 w _).trans (hb1.mono (by simp))); have HO1 := hide (HO.out.keep (below_apart hb1) (by simp)); have b0 := HO1.out.cell 0 _ rfl; have b1 := HO1.out.cell 1 _ rfl; have bz := HO1.out.fz; clear hb1)
          | (go_at_call 57; refine (HNR.out _).mono ?_; rintro e w2 ⟨rfl, hw2⟩; subst w2))
        refine bodyPost_ret (v := .agg #[.slice none 0 0, .int .i64 1]) (by simp [results, Tryz.results27, go_sem, b0, b1]) rfl ?_
        rw [HTC.out.1, HTC.out.2]
        exact po_err 1 (set2 HB1.out _ _)
      · obtain ⟨p, hp, hpl, h40, hres⟩ : ∃ p : Pn 10, ns = rowN 10 p ∧ planN 10 p ∧ ns.length ≤ 40 ∧ ((partN role 10 p = none ∧ T = [] ∧ C = 11) ∨ ∃ z, partN role 10 p = some z ∧ T = rowN 10 z ∧ C = 0) := by
          rcases HPO.out with ⟨h, _⟩ | ⟨_, h⟩
          · cases h
          · exact h
        have hfit : fitL (rowN 10 p) := by rw [← hp]; exact HFT.out
        have HPA : Hid (∀ W, Below w.heap.size w W → Calls Tryz.prog 58 #[.slice ao N cap] W fun e w' => Pieced W w' w.heap.size e 10 p []) := hide (fun W hb => by
          have := piece_ahead 10 p hpl [] (.slice ao N cap) W w.heap.size hb.size (by rw [List.append_nil, ← hp, ← HN.out]; exact HV.out.carry hb)
          exact this)
        have HPC : Hid (∀ (W : World) (S : Nat → Prop) (u : Value), (∀ g, S g → g < W.heap.size) → PcAt W S 10 p u → Calls Tryz.prog 59 #[u, .string role] W fun e w' => Merged 10 S W w' e (partN role 10 p)) := hide (fun W S u hS hu => part_calls role 10 S p u W hS hpl (by rw [← hp]; exact h40) hfit hu)
        rcases hres with ⟨hnone, rfl, rfl⟩ | ⟨z, hsome, rfl, rfl⟩
        · rw [hnone] at HPC
          go_enter Tryz.func27, Tryz.ntmps27
          go_wp2_with (first
            | (go_at_call 12; refine (HPR.out _ (malloc1 w _)).mono ?_; rintro e w1 ⟨rfl, hb1⟩; have HB1 : Hid (Below w.heap.size w w1) := hide ((malloc1 w _).trans (hb1.mono (by simp))); have HO1 := hide (HO.out.keep (below_apart hb1) (by simp)); clear hb1)
            | (go_at_call 57; refine (HNR.out _).mono ?_; rintro e w2 ⟨rfl, hw2⟩; subst w2)
            | (go_at_call 58; refine (HPA.out _ HB1.out).mono ?_; rintro e w3 ⟨u3, v3, rfl, h3a, h3b, h3c⟩; have H3A := hide h3a; have HB3 : Hid (Below w.heap.size w w3) := hide (HB1.out.trans (h3c.mono HB1.out.size)); have HO3 := hide (HO1.out.keep (below_apart h3c) (by simp)); obtain ⟨t3, a3, rfl⟩ := h3a.shape; obtain ⟨x3, y3, rfl, -⟩ := h3b; clear h3a h3c)
            | (go_at_call 59; refine (HPC.out _ _ _ (fun g hg => hg.2) H3A.out).mono ?_; rintro e w4 ⟨q4, rfl, h4a, h4b, h4c⟩; have HB4 : Hid (Below w.heap.size w w4) := hide (HB3.out.trans (h4b.mono HB3.out.size)); have HO4 := hide (HO3.out.keep (below_apart h4b) (by simp)); have b0 := HO4.out.cell 0 _ rfl; have b1 := HO4.out.cell 1 _ rfl; have bz := HO4.out.fz; clear h4a h4b; rcases h4c with rfl | ⟨t4, a4, rfl⟩))
          all_goals
            refine bodyPost_ret (v := .agg #[.slice none 0 0, .int .i64 11]) (by simp [results, Tryz.results27, go_sem, b0, b1]) rfl ?_
            exact po_err 11 (set2 HB4.out _ _)
        · rw [hsome] at HPC
          have hsz := part_sz role 10 p z hpl hsome
          have hz40 : (rowN 10 z).length ≤ 40 := by have := hsz.1; rw [← hp] at this; omega
          have HZF : Hid (fitL (rowN 10 z)) := hide (hsz.2 hfit)
          have HSH : Hid (shapeN 10 z) := hide (part_shape role 10 p z hpl hsome)
          have HZL := hide hz40
          obtain ⟨ZR, hZR⟩ : ∃ ZR, rowN 10 z = ZR := ⟨_, rfl⟩
          have HRB : Hid (∀ (W : World) (S : Nat → Prop) (u : Value), (∀ g, S g → g < W.heap.size) → PcAt W S 10 z u → RowBy u W ZR) := hide (fun W S u hS hu => by rw [← hZR]; exact row_by HSH.out hS hu (by have := HZL.out; omega))
          rw [hZR] at HZF HZL ⊢
          clear hZR hfit hsz hsome hz40
          go_enter Tryz.func27, Tryz.ntmps27
          go_wp2_with (first
            | (go_at_call 12; refine (HPR.out _ (malloc1 w _)).mono ?_; rintro e w1 ⟨rfl, hb1⟩; have HB1 : Hid (Below w.heap.size w w1) := hide ((malloc1 w _).trans (hb1.mono (by simp))); have HO1 := hide (HO.out.keep (below_apart hb1) (by simp)); have HZ1 : Hid (w.heap.size + 1 ≤ w1.heap.size) := hide (by have := hb1.size; simpa using this); clear hb1)
            | (go_at_call 57; refine (HNR.out _).mono ?_; rintro e w2 ⟨rfl, hw2⟩; subst w2)
            | (go_at_call 58; refine (HPA.out _ HB1.out).mono ?_; rintro e w3 ⟨u3, v3, rfl, h3a, h3b, h3c⟩; have H3A := hide h3a; have HB3 : Hid (Below w.heap.size w w3) := hide (HB1.out.trans (h3c.mono HB1.out.size)); have HZ3 : Hid (w.heap.size + 1 ≤ w3.heap.size) := hide (Nat.le_trans HZ1.out h3c.size); have HO3 := hide (HO1.out.keep (below_apart h3c) (by simp)); obtain ⟨t3, a3, rfl⟩ := h3a.shape; obtain ⟨x3, y3, rfl, -⟩ := h3b; clear h3a h3c)
            | (go_at_call 59; refine (HPC.out _ _ _ (fun g hg => hg.2) H3A.out).mono ?_; rintro e w4 ⟨q4, rfl, h4a, h4b, h4c⟩; have HB4 : Hid (Below w.heap.size w w4) := hide (HB3.out.trans (h4b.mono HB3.out.size)); have HZ4 : Hid (w.heap.size + 1 ≤ w4.heap.size) := hide (Nat.le_trans HZ3.out h4b.size); have HO4 := hide (HO3.out.keep (below_apart h4b) (by simp)); have hrb := HRB.out w4 _ q4 (fun g hg => hg.elim (fun k => Nat.lt_of_lt_of_le k.2 h4b.size) (fun k => k.2)) (h4a z rfl); obtain ⟨T1, a1, K1, rfl, hm1, hcf1, hcall1⟩ := hrb; have HC1 := hide hcall1; clear h4a h4b h4c hcall1)
            | (go_at_call 60; refine (own_texts ZR w4.heap.size _ w5 H5.out (by have := HZL.out; omega) HZF.out).mono ?_; rintro e w6 ⟨rfl, h6a, h6b⟩; have H6A := hide h6a; have HL6 := (owns_fresh H5.out).lo; have HB6 : Hid (Below w.heap.size w w6) := hide (HB5.out.trans (h6b.below HB5.out.size (fun b hb => Nat.le_trans HB4.out.size (HL6 b hb)))); have HO6 := hide (HO5.out.keep h6b (fun hm => by have := HL6 _ hm; have := HZ4.out; omega)); have b0 := HO6.out.cell 0 _ rfl; have b1 := HO6.out.cell 1 _ rfl; have bz := HO6.out.fz; clear h6a h6b HL6)
            | ((fail_if_success (have := H5)); refine Calls.mono (HC1.out w4 (Below.refl _ _)) ?_; rintro e w5 ⟨v5, rfl, h5a, h5b⟩; have H5 := hide h5a; have HB5 : Hid (Below w.heap.size w w5) := hide (HB4.out.trans (h5b.mono HB4.out.size)); have HO5 := hide (HO4.out.keep (below_apart h5b) (by simp)); obtain ⟨p5, c5, rfl⟩ := owns_shape h5a; clear h5a h5b))
          refine bodyPost_ret (v := .agg #[.slice p5 ZR.length c5, .int .i64 0]) (by simp [results, Tryz.results27, go_sem, b0, b1]) rfl ?_
          refine ⟨_, rfl, ?_, set2 HB6.out _ _⟩
          exact owns_down (nd_keep H6A.out (ap2 w6 w.heap.size _ _) (fun b hb hm => by simp at hm; have := (owns_fresh H6A.out).lo b hb; have := HZ4.out; omega)) HB4.out.size
end Go.Proofs.YtmjlblbhakppfaaGreatDoor
namespace Go.Proofs.YtmjlblbhakppfaaGreatDoor
open Go.RowKit

def sndP (p : Pn 10) (rs : List ByteArray) : Bool := rs.all (fun r => (partN r 10 p).isSome)
def Snd (ns : List Nd) (q : Bool) : Prop := (rightB false ns = false ∧ q = false) ∨ (rightB false ns = true ∧ ∃ p : Pn 10, ns = rowN 10 p ∧ planN 10 p ∧ ns.length ≤ 40 ∧ q = sndP p (rolesS ns))
theorem snd_ex (ns : List Nd) : ∃ q, Snd ns q := by
  cases hr : rightB false ns with
  | false => exact ⟨false, .inl ⟨hr, rfl⟩⟩
  | true =>
    obtain ⟨ha, h40⟩ := plan_ahead hr
    obtain ⟨p, e, hp⟩ := parse 10 [] ns [] ha
    rw [List.append_nil] at e
    exact ⟨_, .inr ⟨hr, p, e, hp, h40, rfl⟩⟩
theorem snd_no {p : Pn 10} {rs : List ByteArray} {k : Nat} (hk : k < rs.length) (h : (partN rs[k] 10 p).isSome = false) : sndP p rs = false := by
  unfold sndP
  rw [List.all_eq_false]
  exact ⟨rs[k], List.getElem_mem hk, by rw [h]; simp⟩
theorem snd_all {p : Pn 10} {rs : List ByteArray} (h : ∀ j (hj : j < rs.length), (partN rs[j] 10 p).isSome = true) : sndP p rs = true := by
  unfold sndP
  rw [List.all_eq_true]
  intro x hx
  obtain ⟨j, hj, rfl⟩ := List.getElem_of_mem hx
  exact h j hj
theorem role_name {ns : List Nd} (h : rightB false ns = true) {t : ByteArray} (ht : t ∈ rolesS ns) : nameB t = true ∧ t.size ≤ 20 := by
  have hw := role_word h t ht
  refine ⟨?_, word_len hw⟩
  simp only [wordB, Bool.and_eq_true] at hw
  first | exact hw.1 | exact hw.2
end Go.Proofs.YtmjlblbhakppfaaGreatDoor
