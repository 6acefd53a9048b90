import Derived.Test.YtaaeledleldllaaGreatQB19
import Derived.Test.YtaaeledleldllaaGreatQB07
import Derived.Laws.OwnMore
namespace Go.Proofs.YtaaeledleldllaaGreat
open Go.RowKit
attribute [local go_sem ↓] Go.wp_at_zero Go.wp_at_succ

def Rowed (w w' : World) (e : Ending) (l : List Nd) : Prop := ∃ v', e = .returned v' ∧ NdOwn w' w.heap.size v' l ∧ Below w.heap.size w w'
def RowBy (v : Value) (w : World) (l : List Nd) : Prop := ∃ T a K, v = .iface T a ∧ (∀ W : World, (Go.method 404 T a "loop.example/g00574/impl.row").run Tryz.prog W = .ok (K, a) W) ∧ (∀ W : World, (callFunc K #[a]).run Tryz.prog W = .ok (.enter K #[a]) W) ∧ ∀ W, Below w.heap.size w W → Calls Tryz.prog K #[a] W fun e w' => Rowed W w' e l
def RowCalls (n : Nat) (p : Pn n) : Prop := ∀ (v : Value) (w : World), PcAt w (lo w.heap.size) n p v → (rowN n p).length ≤ 1000 → RowBy v w (rowN n p)
set_option maxRecDepth 100000 in
set_option maxHeartbeats 1000000 in
theorem row_end (v : Value) (w : World) (h : leafAt none v) : RowBy v w (leafRow none) := by
  refine ⟨_, _, 245, h, fun W => by kernel_rfl, fun W => by kernel_rfl, fun W _ => ?_⟩
  go_enter Tryz.func245, Tryz.ntmps245
  go_wp2_with fail
  go_ret
  exact ⟨_, rfl, nd_lit _ ⟨0, noT, noT, 0, 0⟩ _ _ (by simp) (by simp), (malloc1 _ _).trans ((malloc1 _ _).mono (by simp))⟩
set_option maxRecDepth 100000 in
set_option maxHeartbeats 1000000 in
theorem row_var (x : ByteArray) (v : Value) (w : World) (h : leafAt (some x) v) : RowBy v w (leafRow (some x)) := by
  refine ⟨_, _, 242, h, fun W => by kernel_rfl, fun W => by kernel_rfl, fun W _ => ?_⟩
  go_enter Tryz.func242, Tryz.ntmps242
  go_wp2_with fail
  go_ret
  exact ⟨_, rfl, nd_lit _ ⟨1, x, noT, 0, 0⟩ _ _ (by simp) (by simp), (malloc1 _ _).trans ((malloc1 _ _).mono (by simp))⟩
theorem brs_take {α : Type} {f : α → List Nd} {l : List (Br α)} {k : Nat} {b : Br α} (hk : l[k]? = some b) : brsBy f (l.take (k + 1)) = brsBy f (l.take k) ++ [⟨4, b.l, noT, 0, b.s⟩] ++ f b.p := by
  obtain ⟨hlt, hb⟩ := List.getElem?_eq_some_iff.1 hk
  rw [List.take_succ_eq_append_getElem hlt, brs_app, hb, brs_cons]
  simp [brsBy]
theorem brs_take_len {α : Type} {f : α → List Nd} (l : List (Br α)) (k : Nat) : (brsBy f (l.take k)).length ≤ (brsBy f l).length := by
  conv => rhs; rw [← List.take_append_drop k l, brs_app, List.length_append]
  omega
set_option maxRecDepth 100000 in
set_option maxHeartbeats 2000000 in
theorem talk_row (n : Nat) (l : List (Br (Pn n))) (hin : ∀ b ∈ l, RowCalls n b.p) (op : Int) (a b : ByteArray) (m s : Int) (sl : Value) (w : World) (hs : BrS w (lo w.heap.size) sl l) (hlen : (brsBy (rowN n) l).length ≤ 999) :
    Calls Tryz.prog 244 #[.agg #[.int .i64 op, .string a, .string b, .int .i64 m, .int .i64 s], sl] w fun e w' => Rowed w w' e (⟨op, a, b, (l.length : Int), s⟩ :: brsBy (rowN n) l) := by
  obtain ⟨i0, hi, hz0, hz1, hz2⟩ := info_parts Tryz.infoNd
  have HI := hide (And.intro hi (And.intro hz0 (And.intro hz1 hz2)))
  have HIN := hide hin
  have HS := hide hs
  have HLEN := hide hlen
  obtain ⟨ao, cap, rfl, hc1, hc2, hr⟩ := hs
  have HR := hide hr
  obtain ⟨L, hL⟩ : ∃ L, l.length = L := ⟨_, rfl⟩
  rw [hL] at hc1 ⊢
  have HLL := hide hL
  unfold maxLen at hc2
  clear hi hz0 hz1 hz2 hin hr hlen hL
  go_enter Tryz.func244, Tryz.ntmps244
  go_wp2_with fail
  go_loopw [5, 15] (fun lv i wr => ∃ k : Nat, k ≤ L ∧ i = .int .i64 k ∧ NdOwn wr w.heap.size lv (⟨op, a, b, (L : Int), s⟩ :: brsBy (rowN n) (l.take k)) ∧ Below w.heap.size w wr) (fun _ i _ => L - (intOf i).toNat)
  case atStart =>
    refine ⟨0, Nat.zero_le _, rfl, ?_, ?_⟩
    · exact nd_lit _ ⟨op, a, b, (L : Int), s⟩ _ _ (by simp) (by simp)
    · exact ((malloc1 w _).trans ((malloc1 _ _).mono (by simp)))
  case round =>
    obtain ⟨k, hk, rfl, hown, hbel⟩ := hrel
    have HOWN := hide hown
    have HBEL := hide hbel
    have hzw := hbel.size
    obtain ⟨p, c, hp⟩ := owns_shape hown
    obtain ⟨X, hX⟩ : ∃ X, (⟨op, a, b, (L : Int), s⟩ :: brsBy (rowN n) (l.take k) : List Nd) = X := ⟨_, rfl⟩
    have HXL : Hid (X.length ≤ 1000) := hide (by rw [← hX, List.length_cons]; have := brs_take_len (f := rowN n) l k; have := HLEN.out; omega)
    rw [hX] at hp HOWN
    obtain ⟨cnt, hcnt⟩ : ∃ c, X.length = c := ⟨_, rfl⟩
    rw [hcnt] at hp
    have HCN := hide hcnt
    have hcl : cnt ≤ 1000 := by rw [← hcnt]; exact HXL.out
    subst hp
    have HX := hide hX
    clear hown hX hcnt
    by_cases hlt : k < L
    · obtain ⟨g, o, rfl, hg, hcells⟩ := HR.out (by rintro rfl; have := HLL.out; simp at this; omega)
      obtain ⟨b0, hb0⟩ : ∃ b0, l[k]? = some b0 := ⟨l[k]'(by rw [HLL.out]; exact hlt), List.getElem?_eq_getElem _⟩
      obtain ⟨k1, k2, u, k3, k4⟩ := hcells k b0 hb0
      have hrl : (rowN n b0.p).length ≤ 1000 := by have := (brs_get (f := rowN n) hb0).1; have := HLEN.out; omega
      obtain ⟨T, av, K, rfl, hm, hcf, hcall⟩ := HIN.out b0 (List.mem_of_getElem? hb0) u w k4 hrl
      have HCALL := hide hcall
      have HB0 := hide hb0
      have hgw : g < w.heap.size := hg
      have e1 := (hbel.cell (p := ⟨g, o + k * 3, none⟩) hg).trans k1
      have e2 := (hbel.cell (p := ⟨g, o + k * 3 + 1, none⟩) hg).trans k2
      have e3 := (hbel.cell (p := ⟨g, o + k * 3 + 2, none⟩) hg).trans k3
      have hrp := row_pos n b0.p
      obtain ⟨N, hN⟩ : ∃ N, rowN n b0.p = N := ⟨_, rfl⟩
      rw [hN] at hrl hrp HCALL
      have HN := hide hN
      obtain ⟨bl, bs, bp⟩ := b0
      dsimp only at e1 e2
      have HOWN2 : Hid (wr.ownsRow w.heap.size 68 5 (.slice p cnt c) cnt (X.flatMap Nd.cells)) := hide (by have := HOWN.out; unfold NdOwn at this; rw [HCN.out] at this; exact this)
      obtain ⟨RL, hRL⟩ : ∃ RL, N.length = RL := ⟨_, rfl⟩
      rw [hRL] at hrl hrp
      have HRL := hide hRL
      clear hcells hcall k4 hb0 hN hbel hRL
      go_wp2_with (first
        | ((fail_if_success (have := HO4)); at_builtin; refine wpList_append_own _ rfl (.tmp 19) (.tmp 25) 25 rfl w.heap.size 68 i0 (.agg #[.int .i64 0, .string ByteArray.empty, .string ByteArray.empty, .int .i64 0, .int .i64 0]) 5 56 Tryz.underlying25 HI.out.1 HI.out.2.1 HI.out.2.2.1 HI.out.2.2.2 rfl (by decide) (.slice p cnt c) cnt (X.flatMap Nd.cells) rfl (owns_below HOWN2.out ((malloc1 wr _).trans ((malloc1 _ _).mono (by simp)))) ⟨wr.heap.size + 1, 0, none⟩ 1 1 (Nd.cells ⟨4, bl, noT, 0, bs⟩) rfl rfl (fun j u hj => new_rowq _ _ _ _ (by simp) j u hj) (Nd.cells_one _) (by unfold maxLen; omega) (by omega) (by simp; omega) ?_; intro v4 w4 hown4 hgr4 _; have HO4 := hide hown4; have HA4 : Hid (Apart (wr.alloc (.cells #[.string bl, .int .i64 bs, .iface T av] 229)) w4 (vblocks (.slice p cnt c))) := hide (by have := (below_apart (malloc1 _ _)).trans (grownBy_apart hgr4); rwa [List.nil_append] at this); have x2 : w4.cell? ⟨wr.heap.size, 2, none⟩ = some (.iface T av) := HA4.out.cell' (by simp) (fun hm => absurd ((owns_fresh HOWN2.out).hi _ hm) (by omega)); have HB4 : Hid (Below w.heap.size w w4) := hide ((HBEL.out.trans ((malloc1 wr _).mono hzw)).trans (HA4.out.below (by simp; omega) (owns_fresh HOWN2.out).lo)); obtain ⟨p4, c4, rfl⟩ := owns_shape hown4; clear hown4 hgr4)
        | ((fail_if_success (have := HO5)); refine (HCALL.out w4 HB4.out).mono ?_; rintro e w5 ⟨v5, rfl, ho5, hb5⟩; have HO5 := hide ho5; have HB5 := hide hb5; obtain ⟨g5, c5, hv5, -, -⟩ := ho5.at_ (by rw [HRL.out]; exact hrp); rw [HRL.out] at hv5; subst hv5; clear ho5 hb5)
        | ((fail_if_success (have := HO6)); at_builtin; refine wpList_append_own _ rfl (.tmp 27) (.tmp 30) 25 rfl w.heap.size 68 i0 (.agg #[.int .i64 0, .string ByteArray.empty, .string ByteArray.empty, .int .i64 0, .int .i64 0]) 5 56 Tryz.underlying25 HI.out.1 HI.out.2.1 HI.out.2.2.1 HI.out.2.2.2 rfl (by decide) (.slice p4 (cnt + 1) c4) (cnt + 1) (X.flatMap Nd.cells ++ Nd.cells ⟨4, bl, noT, 0, bs⟩) rfl (owns_below HO4.out HB5.out) ⟨g5, 0, none⟩ RL c5 (N.flatMap Nd.cells) rfl (by rw [flat_len Nd.cells 5 Nd.cells_len, HRL.out]) (fun j u hj => by have := HO5.out; unfold NdOwn at this; rw [HRL.out] at this; exact NdOwn.cell (l := N) (c := c5) (base := w4.heap.size) (by unfold NdOwn; rw [HRL.out]; exact this) j u hj) (nds_one N) (by unfold maxLen; omega) (by omega) (by have := HB5.out.size; have := HB4.out.size; omega) ?_; intro v6 w6 hown6 hgr6 _; have HO6 := hide hown6; have HB6 : Hid (Below w.heap.size w w6) := hide ((HB4.out.trans (HB5.out.mono HB4.out.size)).trans ((grownBy_apart hgr6).below (by have := HB5.out.size; have := HB4.out.size; omega) (owns_fresh HO4.out).lo)); obtain ⟨p6, c6, rfl⟩ := owns_shape hown6; clear hown6 hgr6))
      go_roundw
      case rel =>
        refine ⟨k + 1, hlt, by go_num, ?_, HB6.out⟩
        have e := brs_take (f := rowN n) HB0.out
        rw [HN.out] at e
        rw [e, ← List.cons_append, ← List.cons_append, HX.out]
        refine NdOwn.snoc ?_
        rw [List.length_append, List.length_singleton, HCN.out, HRL.out, List.flatMap_append]
        simpa using HO6.out
      case measure => simp [intOf]; omega
    · obtain rfl : k = L := by omega
      have HE : Hid (X = ⟨op, a, b, (k : Int), s⟩ :: brsBy (rowN n) l) := hide (by rw [← HX.out, List.take_of_length_le (by rw [HLL.out]; exact Nat.le_refl _)])
      have HOWN3 : Hid (NdOwn wr w.heap.size (.slice p cnt c) X) := hide (by have := HOWN.out; exact this)
      go_wp2_with fail
      go_ret
      rw [← HE.out]
      exact ⟨_, rfl, HOWN3.out, HBEL.out⟩
end Go.Proofs.YtaaeledleldllaaGreat
namespace Go.Proofs.YtaaeledleldllaaGreat
open Go.RowKit

theorem s_planRight (ns : List Nd) (v : Value) (w : World) (fit : ∀ n ∈ ns, n.fit) (hv : SlAt w w.heap.size v ns) :
    Calls Tryz.prog 32 #[v] w fun e w' => e = .returned (.bool (rightB false ns)) ∧ Below w.heap.size w w' := by
  have HV := hide hv
  have HF := hide fit
  obtain ⟨ao, cap, rfl, hc, hm, hr⟩ := hv
  clear hr fit hc hm
  go_enter Tryz.func32, Tryz.ntmps32
  go_wp2_with (go_at_call 69; refine (s_right false ns _ _ HF.out HV.out).mono ?_; rintro e w1 ⟨rfl, hb1⟩; have HB1 := hide hb1; clear hb1)
  go_ret
  exact ⟨ret_bool rfl, HB1.out⟩
end Go.Proofs.YtaaeledleldllaaGreat
namespace Go.Proofs.YtaaeledleldllaaGreat
open Go.RowKit
attribute [local go_sem ↓] Go.wp_at_zero Go.wp_at_succ

def Pieced (w w' : World) (B : Nat) (e : Ending) (n : Nat) (p : Pn n) (r : List Nd) : Prop := ∃ u v', e = .returned (.tuple #[u, v']) ∧ PcAt w' (btw w.heap.size w'.heap.size) n p u ∧ SlAt w' B v' r ∧ Below w.heap.size w w'
def PiecedL (w w' : World) (B : Nat) (e : Ending) (x : Option ByteArray) (r : List Nd) : Prop := ∃ u v', e = .returned (.tuple #[u, v']) ∧ leafAt x u ∧ SlAt w' B v' r ∧ Below w.heap.size w w'
def PieceCalls (n : Nat) (p : Pn n) : Prop := ∀ (r : List Nd) (v : Value) (w : World) (B : Nat), B ≤ w.heap.size → SlAt w B v (rowN n p ++ r) → Calls Tryz.prog 76 #[v] w fun e w' => Pieced w w' B e n p r
set_option maxRecDepth 100000 in
set_option maxHeartbeats 1000000 in
theorem piece_end (r : List Nd) (v : Value) (w : World) (B : Nat) (hB : B ≤ w.heap.size) (hv : SlAt w B v (leafRow none ++ r)) : Calls Tryz.prog 76 #[v] w fun e w' => PiecedL w w' B e none r := by
  rw [leafRow, List.cons_append, List.nil_append] at hv
  obtain ⟨ao, cap, rfl, hc1, hc2, hr⟩ := hv
  obtain ⟨b, o, rfl, hb, hrow⟩ := hr (by simp)
  have HT : Hid (∀ ao, (cap ≠ 1 → ao = some ⟨b, o + 5, none⟩) → SlAt w B (.slice ao r.length (cap - 1)) r) := hide (fun ao ha => SlAt.tail hb hrow hc1 hc2 ao ha)
  have HBS := hide hB
  simp only [List.length_cons] at hc1
  obtain ⟨⟨c0, c1, c2, c3, c4⟩, -⟩ := hrow
  dsimp only at c0 c1 c2 c3 c4
  have hbw : b < w.heap.size := World.block_lt_of_cell? w _ c0
  clear hr
  by_cases hcap : cap = 1
  · subst hcap
    obtain rfl : r = [] := List.length_eq_zero_iff.1 (by omega)
    go_enter Tryz.func76, Tryz.ntmps76
    go_wp2_with fail
    go_region
    go_wp2_with fail
    go_ret2
    exact ⟨_, _, rfl, rfl, (HT.out _ (fun h => absurd rfl h)).carry ((alloc1 w _).drew.mono HBS.out), (alloc1 w _).drew⟩
  · go_enter Tryz.func76, Tryz.ntmps76
    go_wp2_with fail
    go_region
    go_wp2_with fail
    go_ret2
    exact ⟨_, _, rfl, rfl, (HT.out _ (fun _ => rfl)).carry ((alloc1 w _).drew.mono HBS.out), (alloc1 w _).drew⟩
set_option maxRecDepth 100000 in
set_option maxHeartbeats 1000000 in
theorem piece_var (x : ByteArray) (r : List Nd) (v : Value) (w : World) (B : Nat) (hB : B ≤ w.heap.size) (hv : SlAt w B v (leafRow (some x) ++ r)) : Calls Tryz.prog 76 #[v] w fun e w' => PiecedL w w' B e (some x) r := by
  rw [leafRow, List.cons_append, List.nil_append] at hv
  obtain ⟨ao, cap, rfl, hc1, hc2, hr⟩ := hv
  obtain ⟨b, o, rfl, hb, hrow⟩ := hr (by simp)
  have HT : Hid (∀ ao, (cap ≠ 1 → ao = some ⟨b, o + 5, none⟩) → SlAt w B (.slice ao r.length (cap - 1)) (r)) := hide (fun ao ha => SlAt.tail hb hrow hc1 hc2 ao ha)
  have HBS := hide hB
  simp only [List.length_cons] at hc1
  obtain ⟨⟨c0, c1, c2, c3, c4⟩, -⟩ := hrow
  dsimp only at c0 c1 c2 c3 c4
  have hbw : b < w.heap.size := World.block_lt_of_cell? w _ c0
  clear hr
  by_cases hcap : cap = 1
  · subst hcap
    obtain rfl : r = [] := List.length_eq_zero_iff.1 (by omega)
    go_enter Tryz.func76, Tryz.ntmps76
    go_wp2_with fail
    go_region
    go_wp2_with fail
    go_ret2
    exact ⟨_, _, rfl, rfl, (HT.out _ (fun h => absurd rfl h)).carry ((alloc1 w _).drew.mono HBS.out), (alloc1 w _).drew⟩
  · go_enter Tryz.func76, Tryz.ntmps76
    go_wp2_with fail
    go_region
    go_wp2_with fail
    go_ret2
    exact ⟨_, _, rfl, rfl, (HT.out _ (fun _ => rfl)).carry ((alloc1 w _).drew.mono HBS.out), (alloc1 w _).drew⟩
set_option maxRecDepth 100000 in
set_option maxHeartbeats 1000000 in
theorem piece_loop (n : Nat) (x : ByteArray) (p : Pn n) (hp : PieceCalls n p) (r : List Nd) (v : Value) (w : World) (B : Nat) (hB : B ≤ w.heap.size) (hv : SlAt w B v (rowN (n + 1) (.loop x p) ++ r)) : Calls Tryz.prog 76 #[v] w fun e w' => Pieced w w' B e (n + 1) (.loop x p) r := by
  rw [row_loop, List.cons_append] at hv
  obtain ⟨ao, cap, rfl, hc1, hc2, hr⟩ := hv
  obtain ⟨b, o, rfl, hb, hrow⟩ := hr (by simp)
  have HT : Hid (∀ ao, (cap ≠ 1 → ao = some ⟨b, o + 5, none⟩) → SlAt w B (.slice ao (rowN n p ++ r).length (cap - 1)) ((rowN n p ++ r))) := hide (fun ao ha => SlAt.tail hb hrow hc1 hc2 ao ha)
  have HBS := hide hB
  simp only [List.length_cons] at hc1
  obtain ⟨⟨c0, c1, c2, c3, c4⟩, -⟩ := hrow
  dsimp only at c0 c1 c2 c3 c4
  have hbw : b < w.heap.size := World.block_lt_of_cell? w _ c0
  clear hr
  have hpos := row_pos n p
  have hcap : cap ≠ 1 := by simp only [List.length_append] at hc1; omega
  have HC : Hid (Calls Tryz.prog 76 #[.slice (some ⟨b, o + 5, none⟩) (rowN n p ++ r).length (cap - 1)] (w.alloc (.cells #[.int .i64 2, .string x, .string noT, .int .i64 0, .int .i64 0] 68)).drew fun e w' => Pieced (w.alloc (.cells #[.int .i64 2, .string x, .string noT, .int .i64 0, .int .i64 0] 68)).drew w' B e n p r) := hide (hp r _ _ B (by simp; omega) ((HT.out _ (fun _ => rfl)).carry ((alloc1 w _).drew.mono HBS.out)))
  obtain ⟨N, hN⟩ : ∃ N, (rowN n p ++ r).length = N := ⟨_, rfl⟩
  rw [hN] at HC hc1
  rw [List.length_cons, hN]
  clear hN hp hpos
  go_enter Tryz.func76, Tryz.ntmps76
  go_wp2_with fail
  go_region
  go_wp2_with (go_at_call 76; refine HC.out.mono ?_; rintro e w2 ⟨u, v2, rfl, h1, h2, h3⟩; have H1 := hide h1; have H2 := hide h2; have H3 : Hid (Below w.heap.size w w2) := hide ((alloc1 w _).drew.trans (h3.mono (by simp))); have d1 := (h3.cell (p := ⟨w.heap.size, 1, none⟩) (by simp)); simp at d1; obtain ⟨ao2, cap2, rfl, -⟩ := h2; obtain ⟨t2, a2, rfl⟩ := h1.shape; clear h1 h3)
  go_ret2
  exact ⟨_, _, rfl, ⟨_, rfl, H1.out.wide (by simp)⟩, H2.out, H3.out⟩
def Branched (w w' : World) (B : Nat) (e : Ending) (n : Nat) (cs : List (Br (Pn n))) (r : List Nd) : Prop := ∃ u v', e = .returned (.tuple #[u, v']) ∧ BrS w' (btw w.heap.size w'.heap.size) u cs ∧ SlAt w' B v' r ∧ Below w.heap.size w w'
def BranchCalls (n : Nat) (cs : List (Br (Pn n))) : Prop := ∀ (r : List Nd) (v : Value) (w : World) (B : Nat), B ≤ w.heap.size → SlAt w B v (brsBy (rowN n) cs ++ r) → Calls Tryz.prog 130 #[v, .int .i64 (cs.length : Int)] w fun e w' => Branched w w' B e n cs r
set_option maxRecDepth 100000 in
set_option maxHeartbeats 1000000 in
theorem piece_msg (n : Nat) (x y : ByteArray) (cs : List (Br (Pn n))) (hlen : 1 ≤ cs.length) (hp : BranchCalls n cs) (r : List Nd) (v : Value) (w : World) (B : Nat) (hB : B ≤ w.heap.size) (hv : SlAt w B v (rowN (n + 1) (.talk ⟨3, x, y⟩ cs) ++ r)) : Calls Tryz.prog 76 #[v] w fun e w' => Pieced w w' B e (n + 1) (.talk ⟨3, x, y⟩ cs) r := by
  rw [row_talk, List.cons_append] at hv
  obtain ⟨ao, cap, rfl, hc1, hc2, hr⟩ := hv
  obtain ⟨b, o, rfl, hb, hrow⟩ := hr (by simp)
  have HT : Hid (∀ ao, (cap ≠ 1 → ao = some ⟨b, o + 5, none⟩) → SlAt w B (.slice ao (brsBy (rowN n) cs ++ r).length (cap - 1)) (brsBy (rowN n) cs ++ r)) := hide (fun ao ha => SlAt.tail hb hrow hc1 hc2 ao ha)
  have HBS := hide hB
  simp only [List.length_cons] at hc1
  obtain ⟨⟨c0, c1, c2, c3, c4⟩, -⟩ := hrow
  dsimp only at c0 c1 c2 c3 c4
  have hbw : b < w.heap.size := World.block_lt_of_cell? w _ c0
  have hpos : 0 < (brsBy (rowN n) cs).length := by
    cases cs with
    | nil => simp at hlen
    | cons => rw [brs_cons]; simp
  have hcap : cap ≠ 1 := by simp only [List.length_append] at hc1; omega
  obtain ⟨M, hM⟩ : ∃ M, cs.length = M := ⟨_, rfl⟩
  have HC : Hid (Calls Tryz.prog 130 #[.slice (some ⟨b, o + 5, none⟩) (brsBy (rowN n) cs ++ r).length (cap - 1), .int .i64 (M : Int)] (w.alloc (.cells #[.int .i64 3, .string x, .string y, .int .i64 (M : Int), .int .i64 0] 68)).drew fun e w' => Branched (w.alloc (.cells #[.int .i64 3, .string x, .string y, .int .i64 (M : Int), .int .i64 0] 68)).drew w' B e n cs r) := hide (by rw [← hM]; exact hp r _ _ B (by simp; omega) ((HT.out _ (fun _ => rfl)).carry ((alloc1 w _).drew.mono HBS.out)))
  obtain ⟨N, hN⟩ : ∃ N, (brsBy (rowN n) cs ++ r).length = N := ⟨_, rfl⟩
  rw [hN] at HC hc1
  rw [hM] at c3
  rw [List.length_cons, hN]
  clear hN hp hpos hM hlen hr
  go_enter Tryz.func76, Tryz.ntmps76
  go_wp2_with fail
  go_region
  go_wp2_with (go_at_call 130; refine HC.out.mono ?_; rintro e w2 ⟨u, v2, rfl, h1, h2, h3⟩; have H1 := hide h1; have H2 := hide h2; have H3 : Hid (Below w.heap.size w w2) := hide ((alloc1 w _).drew.trans (h3.mono (by simp))); have d1 := (h3.cell (p := ⟨w.heap.size, 1, none⟩) (by simp)); have d2 := (h3.cell (p := ⟨w.heap.size, 2, none⟩) (by simp)); simp at d1 d2; obtain ⟨ao2, cap2, rfl, -⟩ := h2; obtain ⟨ao3, cap3, rfl, -⟩ := h1; clear h3)
  go_ret2
  exact ⟨_, _, rfl, ⟨_, rfl, H1.out.wide (by simp)⟩, H2.out, H3.out⟩
end Go.Proofs.YtaaeledleldllaaGreat
namespace Go.Proofs.YtaaeledleldllaaGreat
open Go.RowKit
attribute [local go_sem ↓] Go.wp_at_zero Go.wp_at_succ

theorem map_get {n : Nat} {l : List (BV n)} {r L : List (Br (Pn n))} (h : L = l.map BV.b ++ r) : L.length = l.length + r.length := by rw [h, List.length_append, List.length_map]
structure RoundB (n : Nat) (w wr : World) (B : Nat) (cs : List (Br (Pn n))) (r : List Nd) (lv cv : Value) (dn : List (BV n)) (rest : List (Br (Pn n))) : Prop where
  all : cs = dn.map BV.b ++ rest
  sl : SlAt wr B lv (brsBy (rowN n) rest ++ r)
  own : BrOwn wr w.heap.size cv dn
  bel : Below w.heap.size w wr
set_option maxRecDepth 100000 in
set_option maxHeartbeats 2000000 in
theorem branches_ahead (n : Nat) (cs : List (Br (Pn n))) (h4 : cs.length ≤ 4) (hp : ∀ b ∈ cs, PieceCalls n b.p) : BranchCalls n cs := by
  intro r v w B hB hv
  obtain ⟨i0, hi, hz0, hz1, hz2⟩ := info_parts Tryz.infoBr
  have HI := hide (And.intro hi (And.intro hz0 (And.intro hz1 hz2)))
  have HP := hide hp
  have HB := hide hB
  have HS : Hid (RoundB n w w B cs r v (.slice none 0 0) [] cs) := hide ⟨rfl, hv, BrOwn.nil _ _, Below.refl _ _⟩
  obtain ⟨M, hM⟩ : ∃ M, cs.length = M := ⟨_, rfl⟩
  rw [hM] at h4 ⊢
  have HM := hide hM
  obtain ⟨ao, cap, rfl, -⟩ := hv
  clear hi hz0 hz1 hz2 hp hM
  go_enter Tryz.func130, Tryz.ntmps130
  go_wp2_with fail
  go_loopw [0, 6, 10] (fun lv cv i wr => ∃ (dn : List (BV n)) (rest : List (Br (Pn n))), i = .int .i64 (dn.length : Int) ∧ dn.length ≤ M ∧ RoundB n w wr B cs r lv cv dn rest) (fun _ _ i _ => M - (intOf i).toNat)
  case atStart => exact ⟨[], cs, rfl, Nat.zero_le _, HS.out⟩
  case round =>
    obtain ⟨dn, rest, rfl, hle, hR⟩ := hrel
    have HR := hide hR
    obtain ⟨k, hk⟩ : ∃ k, dn.length = k := ⟨_, rfl⟩
    have HK := hide hk
    rw [hk] at hle
    rw [hk]
    by_cases hlt : k < M
    · cases rest with
      | nil => exact absurd (map_get hR.all) (by rw [HM.out, hk]; simp; omega)
      | cons b rest' =>
        have hbm : b ∈ cs := by rw [hR.all]; simp
        obtain ⟨bl, bs, bp⟩ := b
        have hsl := hR.sl
        rw [brs_cons, List.cons_append, List.append_assoc] at hsl
        obtain ⟨ao2, cap2, rfl, hc1, hc2, hr2⟩ := hsl
        obtain ⟨b2, o2, rfl, hb2, hrow2⟩ := hr2 (by simp)
        have hpos := row_pos n bp
        have hcap2 : cap2 ≠ 1 := by simp only [List.length_cons, List.length_append] at hc1; omega
        have HT : Hid (SlAt wr B (.slice (some ⟨b2, o2 + 5, none⟩) (rowN n bp ++ (brsBy (rowN n) rest' ++ r)).length (cap2 - 1)) (rowN n bp ++ (brsBy (rowN n) rest' ++ r))) := hide (SlAt.tail hb2 hrow2 hc1 hc2 _ (fun _ => rfl))
        have HC := hide (HP.out _ hbm (brsBy (rowN n) rest' ++ r) _ wr B (Nat.le_trans HB.out hR.bel.size) HT.out)
        have hbw : b2 < B := hb2
        obtain ⟨⟨c0, c1, c2, c3, c4⟩, -⟩ := hrow2
        dsimp only at c0 c1 c2 c3 c4
        obtain ⟨N, hN⟩ : ∃ N, (rowN n bp ++ (brsBy (rowN n) rest' ++ r)).length = N := ⟨_, rfl⟩
        simp only [List.length_cons] at hc1 ⊢
        rw [hN] at HC hc1 ⊢
        have hszr := hR.bel.size
        have hBB := HB.out
        obtain ⟨pc, cc, hpc⟩ := owns_shape hR.own.own
        rw [hk] at hpc
        subst hpc
        have hbwr : b2 < wr.heap.size := by omega
        clear hr2 hpos hN hR hk hbm
        go_wp2_with (go_at_call 76; refine HC.out.mono ?_; rintro e w2 ⟨u, v2, rfl, h1, h2, h3⟩; have H1 := hide h1; have H2 := hide h2; have H3 := hide h3; have d1 := (h3.cell (p := ⟨b2, o2 + 1, none⟩) hbwr).trans c1; have d4 := (h3.cell (p := ⟨b2, o2 + 4, none⟩) hbwr).trans c4; have d1a : ∀ o : Obj, (w2.alloc o).cell? ⟨b2, o2 + 1, none⟩ = some (.string bl) := (fun o => by rw [← d1]; exact (malloc1 w2 o).cell (p := ⟨b2, o2 + 1, none⟩) (Nat.lt_of_lt_of_le hbwr h3.size)); have HO2 : Hid (BrOwn w2.drew w.heap.size (.slice pc k cc) dn) := hide ((HR.out.own.keep h3).keep (Below.refl _ _).drew); have HX2 : Hid (PcAt w2.drew (off w.heap.size w2.drew.heap.size (.slice pc k cc)) n bp u) := hide (PcAt.carry (w := w2) (w' := w2.drew) (S := btw wr.heap.size w2.heap.size) (fun _ _ => rfl) (fun g hg => ⟨⟨Nat.le_trans hszr hg.1, hg.2⟩, fun hm => absurd ((owns_fresh HR.out.own.own).hi g hm) (by have := hg.1; omega)⟩) n bp u h1); obtain ⟨ao3, cap3, rfl, -⟩ := h2; obtain ⟨t2, a2, rfl⟩ := h1.shape; clear h1 h3)
        go_region_law (refine stepM_at rfl (.tmp 18) (.tmp 29) 180 rfl w.heap.size 229 i0 (.agg #[.string ByteArray.empty, .int .i64 0, .nilIface]) 3 40 Tryz.underlying180 HI.out.1 HI.out.2.1 HI.out.2.2.1 HI.out.2.2.2 rfl (by decide) (.slice pc k cc) k (dn.flatMap BV.cells) (by simp [Act.eval]) (by have := HO2.out.own; rw [HK.out] at this; exact owns_below this (malloc1 _ _)) ⟨w2.heap.size, 0, none⟩ 1 1 (BV.cells ⟨⟨bl, bs, bp⟩, .iface t2 (.agg a2)⟩) (by simp [Act.eval]) rfl (fun j u hj => new_rowq _ _ _ _ (by simp) j u hj) (bv_one H1.out) (by unfold maxLen; omega) (by omega) (by have := H3.out.size; simp; omega) ?_; intro v4 w4 hown4 hgr4 hat4; have HM4 := hide (br_push HO2.out ⟨⟨bl, bs, bp⟩, .iface t2 (.agg a2)⟩ HX2.out _ (by rw [HK.out]; exact hown4) hgr4 hat4); obtain ⟨p4, c4', rfl⟩ := owns_shape hown4; clear hown4 hgr4 hat4)
        all_goals
          go_wp2_with fail
          go_roundw
          case rel =>
            have hlo := (owns_fresh HR.out.own.own).lo
            have hz2 := H3.out.size
            have hb4 : Below w.heap.size w2.drew w4 := HM4.out.2.below (by simp; omega) hlo
            refine ⟨dn ++ [⟨⟨bl, bs, bp⟩, .iface t2 (.agg a2)⟩], rest', by rw [List.length_append, List.length_singleton, HK.out]; go_num, by rw [List.length_append, List.length_singleton, HK.out]; omega, ⟨by rw [HR.out.all]; simp, by have := (H2.out.carry ((Below.refl _ _).drew)).carry (hb4.mono HB.out); rw [List.length_append] at this; exact this, HM4.out.1, (HR.out.bel.trans (H3.out.mono hszr)).drew.trans hb4⟩⟩
          case measure => simp [intOf]; omega
    · have hkM : k = M := by omega
      have hrest : rest = [] := by
        have := map_get hR.all
        rw [HM.out, HK.out] at this
        exact List.length_eq_zero_iff.1 (by omega)
      subst hrest
      have HE : Hid (dn.map BV.b = cs) := hide (by rw [hR.all, List.append_nil])
      obtain ⟨pc, cc, hpc⟩ := owns_shape hR.own.own
      obtain ⟨ao2, cap2, hlv, -⟩ := hR.sl
      subst hpc
      subst hlv
      clear hR
      go_wp2_with fail
      go_ret2
      refine ⟨_, _, rfl, ?_, ?_, HR.out.bel⟩
      · have := HR.out.own.sl
        rw [HE.out] at this
        exact this
      · have := HR.out.sl
        simpa [brsBy] using this
theorem pieced_leaf {w w' : World} {B : Nat} {e : Ending} {x : Option ByteArray} {r : List Nd} (h : PiecedL w w' B e x r) : (Pieced w w' B e 0 x r) ∧ ∀ n, Pieced w w' B e (n + 1) (.leaf x) r := by
  obtain ⟨u, v', h1, h2, h3, h4⟩ := h
  exact ⟨⟨u, v', h1, h2, h3, h4⟩, fun n => ⟨u, v', h1, h2, h3, h4⟩⟩
theorem piece_leaf (x : Option ByteArray) (r : List Nd) (v : Value) (w : World) (B : Nat) (hB : B ≤ w.heap.size) (hv : SlAt w B v (leafRow x ++ r)) : Calls Tryz.prog 76 #[v] w fun e w' => PiecedL w w' B e x r := by
  cases x with
  | none => exact piece_end r v w B hB hv
  | some x => exact piece_var x r v w B hB hv
theorem piece_ahead : ∀ (n : Nat) (p : Pn n), planN n p → PieceCalls n p := by
  intro n
  induction n with
  | zero => intro p _ r v w B hB hv; exact (piece_leaf p r v w B hB hv).mono fun e w' h => (pieced_leaf h).1
  | succ n ih =>
    intro p
    refine Pn.cases (P := fun p => planN (n + 1) p → PieceCalls (n + 1) p) (fun x _ r v w B hB hv => ?_) (fun x q hp => ?_) (fun t l hp => ?_) p
    · exact (piece_leaf x r v w B hB hv).mono fun e w' h => (pieced_leaf h).2 n
    · exact piece_loop n x q (ih q hp)
    · have hp' : t.op = 3 ∧ (t.a.toList == t.b.toList) = false ∧ 1 ≤ l.length ∧ l.length ≤ 4 ∧ ∀ b ∈ l, planN n b.p := hp
      obtain ⟨op, a, b⟩ := t
      obtain ⟨h3, -, h1, h4, hb⟩ := hp'
      dsimp only at h3
      subst h3
      exact piece_msg n a b l h1 (branches_ahead n l h4 (fun b hm => ih b.p (hb b hm)))
end Go.Proofs.YtaaeledleldllaaGreat
