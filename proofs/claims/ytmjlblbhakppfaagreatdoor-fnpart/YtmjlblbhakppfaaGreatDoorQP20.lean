import Derived.Test.YtmjlblbhakppfaaGreatDoorQP13
import Derived.Test.YtmjlblbhakppfaaGreatDoorQP03
import Derived.Laws.OwnMore
namespace Go.Proofs.YtmjlblbhakppfaaGreatDoor
open Go.RowKit
attribute [local go_sem ↓] Go.wp_at_zero Go.wp_at_succ

def Rowed (w w' : World) (e : Ending) (l : List Nd) : Prop := ∃ v', e = .returned v' ∧ NdOwn w' w.heap.size v' l ∧ Below w.heap.size w w'
def RowBy (v : Value) (w : World) (l : List Nd) : Prop := ∃ T a K, v = .iface T a ∧ (∀ W : World, (Go.method 304 T a "loop.example/g00574/impl.row").run Tryz.prog W = .ok (K, a) W) ∧ (∀ W : World, (callFunc K #[a]).run Tryz.prog W = .ok (.enter K #[a]) W) ∧ ∀ W, Below w.heap.size w W → Calls Tryz.prog K #[a] W fun e w' => Rowed W w' e l
def RowCalls (n : Nat) (p : Pn n) : Prop := ∀ (v : Value) (w : World), PcAt w (lo w.heap.size) n p v → (rowN n p).length ≤ 1000 → RowBy v w (rowN n p)
set_option maxRecDepth 100000 in
set_option maxHeartbeats 1000000 in
theorem row_end (v : Value) (w : World) (h : leafAt none v) : RowBy v w (leafRow none) := by
  refine ⟨_, _, 177, h, fun W => by kernel_rfl, fun W => by kernel_rfl, fun W _ => ?_⟩
  go_enter Tryz.func177, Tryz.ntmps177
  go_wp2_with fail
  go_ret
  exact ⟨_, rfl, nd_lit _ ⟨0, noT, noT, 0, 0⟩ _ _ (by simp) (by simp), (malloc1 _ _).trans ((malloc1 _ _).mono (by simp))⟩
set_option maxRecDepth 100000 in
set_option maxHeartbeats 1000000 in
theorem row_var (x : ByteArray) (v : Value) (w : World) (h : leafAt (some x) v) : RowBy v w (leafRow (some x)) := by
  refine ⟨_, _, 174, h, fun W => by kernel_rfl, fun W => by kernel_rfl, fun W _ => ?_⟩
  go_enter Tryz.func174, Tryz.ntmps174
  go_wp2_with fail
  go_ret
  exact ⟨_, rfl, nd_lit _ ⟨1, x, noT, 0, 0⟩ _ _ (by simp) (by simp), (malloc1 _ _).trans ((malloc1 _ _).mono (by simp))⟩
theorem brs_take {α : Type} {f : α → List Nd} {l : List (Br α)} {k : Nat} {b : Br α} (hk : l[k]? = some b) : brsBy f (l.take (k + 1)) = brsBy f (l.take k) ++ [⟨4, b.l, noT, 0, b.s⟩] ++ f b.p := by
  obtain ⟨hlt, hb⟩ := List.getElem?_eq_some_iff.1 hk
  rw [List.take_succ_eq_append_getElem hlt, brs_app, hb, brs_cons]
  simp [brsBy]
theorem brs_take_len {α : Type} {f : α → List Nd} (l : List (Br α)) (k : Nat) : (brsBy f (l.take k)).length ≤ (brsBy f l).length := by
  conv => rhs; rw [← List.take_append_drop k l, brs_app, List.length_append]
  omega
set_option maxRecDepth 100000 in
set_option maxHeartbeats 2000000 in
theorem talk_row (n : Nat) (l : List (Br (Pn n))) (hin : ∀ b ∈ l, RowCalls n b.p) (op : Int) (a b : ByteArray) (m s : Int) (sl : Value) (w : World) (hs : BrS w (lo w.heap.size) sl l) (hlen : (brsBy (rowN n) l).length ≤ 999) :
    Calls Tryz.prog 176 #[.agg #[.int .i64 op, .string a, .string b, .int .i64 m, .int .i64 s], sl] w fun e w' => Rowed w w' e (⟨op, a, b, (l.length : Int), s⟩ :: brsBy (rowN n) l) := by
  obtain ⟨i0, hi, hz0, hz1, hz2⟩ := info_parts Tryz.infoNd
  have HI := hide (And.intro hi (And.intro hz0 (And.intro hz1 hz2)))
  have HIN := hide hin
  have HS := hide hs
  have HLEN := hide hlen
  obtain ⟨ao, cap, rfl, hc1, hc2, hr⟩ := hs
  have HR := hide hr
  obtain ⟨L, hL⟩ : ∃ L, l.length = L := ⟨_, rfl⟩
  rw [hL] at hc1 ⊢
  have HLL := hide hL
  unfold maxLen at hc2
  clear hi hz0 hz1 hz2 hin hr hlen hL
  go_enter Tryz.func176, Tryz.ntmps176
  go_wp2_with fail
  go_loopw [5, 15] (fun lv i wr => ∃ k : Nat, k ≤ L ∧ i = .int .i64 k ∧ NdOwn wr w.heap.size lv (⟨op, a, b, (L : Int), s⟩ :: brsBy (rowN n) (l.take k)) ∧ Below w.heap.size w wr) (fun _ i _ => L - (intOf i).toNat)
  case atStart =>
    refine ⟨0, Nat.zero_le _, rfl, ?_, ?_⟩
    · exact nd_lit _ ⟨op, a, b, (L : Int), s⟩ _ _ (by simp) (by simp)
    · exact ((malloc1 w _).trans ((malloc1 _ _).mono (by simp)))
  case round =>
    obtain ⟨k, hk, rfl, hown, hbel⟩ := hrel
    have HOWN := hide hown
    have HBEL := hide hbel
    have hzw := hbel.size
    obtain ⟨p, c, hp⟩ := owns_shape hown
    obtain ⟨X, hX⟩ : ∃ X, (⟨op, a, b, (L : Int), s⟩ :: brsBy (rowN n) (l.take k) : List Nd) = X := ⟨_, rfl⟩
    have HXL : Hid (X.length ≤ 1000) := hide (by rw [← hX, List.length_cons]; have := brs_take_len (f := rowN n) l k; have := HLEN.out; omega)
    rw [hX] at hp HOWN
    obtain ⟨cnt, hcnt⟩ : ∃ c, X.length = c := ⟨_, rfl⟩
    rw [hcnt] at hp
    have HCN := hide hcnt
    have hcl : cnt ≤ 1000 := by rw [← hcnt]; exact HXL.out
    subst hp
    have HX := hide hX
    clear hown hX hcnt
    by_cases hlt : k < L
    · obtain ⟨g, o, rfl, hg, hcells⟩ := HR.out (by rintro rfl; have := HLL.out; simp at this; omega)
      obtain ⟨b0, hb0⟩ : ∃ b0, l[k]? = some b0 := ⟨l[k]'(by rw [HLL.out]; exact hlt), List.getElem?_eq_getElem _⟩
      obtain ⟨k1, k2, u, k3, k4⟩ := hcells k b0 hb0
      have hrl : (rowN n b0.p).length ≤ 1000 := by have := (brs_get (f := rowN n) hb0).1; have := HLEN.out; omega
      obtain ⟨T, av, K, rfl, hm, hcf, hcall⟩ := HIN.out b0 (List.mem_of_getElem? hb0) u w k4 hrl
      have HCALL := hide hcall
      have HB0 := hide hb0
      have hgw : g < w.heap.size := hg
      have e1 := (hbel.cell (p := ⟨g, o + k * 3, none⟩) hg).trans k1
      have e2 := (hbel.cell (p := ⟨g, o + k * 3 + 1, none⟩) hg).trans k2
      have e3 := (hbel.cell (p := ⟨g, o + k * 3 + 2, none⟩) hg).trans k3
      have hrp := row_pos n b0.p
      obtain ⟨N, hN⟩ : ∃ N, rowN n b0.p = N := ⟨_, rfl⟩
      rw [hN] at hrl hrp HCALL
      have HN := hide hN
      obtain ⟨bl, bs, bp⟩ := b0
      dsimp only at e1 e2
      have HOWN2 : Hid (wr.ownsRow w.heap.size 45 5 (.slice p cnt c) cnt (X.flatMap Nd.cells)) := hide (by have := HOWN.out; unfold NdOwn at this; rw [HCN.out] at this; exact this)
      obtain ⟨RL, hRL⟩ : ∃ RL, N.length = RL := ⟨_, rfl⟩
      rw [hRL] at hrl hrp
      have HRL := hide hRL
      clear hcells hcall k4 hb0 hN hbel hRL
      go_wp2_with (first
        | ((fail_if_success (have := HO4)); at_builtin; refine wpList_append_own _ rfl (.tmp 19) (.tmp 25) 23 rfl w.heap.size 45 i0 (.agg #[.int .i64 0, .string ByteArray.empty, .string ByteArray.empty, .int .i64 0, .int .i64 0]) 5 56 Tryz.underlying23 HI.out.1 HI.out.2.1 HI.out.2.2.1 HI.out.2.2.2 rfl (by decide) (.slice p cnt c) cnt (X.flatMap Nd.cells) rfl (owns_below HOWN2.out ((malloc1 wr _).trans ((malloc1 _ _).mono (by simp)))) ⟨wr.heap.size + 1, 0, none⟩ 1 1 (Nd.cells ⟨4, bl, noT, 0, bs⟩) rfl rfl (fun j u hj => new_rowq _ _ _ _ (by simp) j u hj) (Nd.cells_one _) (by unfold maxLen; omega) (by omega) (by simp; omega) ?_; intro v4 w4 hown4 hgr4 _; have HO4 := hide hown4; have HA4 : Hid (Apart (wr.alloc (.cells #[.string bl, .int .i64 bs, .iface T av] 149)) w4 (vblocks (.slice p cnt c))) := hide (by have := (below_apart (malloc1 _ _)).trans (grownBy_apart hgr4); rwa [List.nil_append] at this); have x2 : w4.cell? ⟨wr.heap.size, 2, none⟩ = some (.iface T av) := HA4.out.cell' (by simp) (fun hm => absurd ((owns_fresh HOWN2.out).hi _ hm) (by omega)); have HB4 : Hid (Below w.heap.size w w4) := hide ((HBEL.out.trans ((malloc1 wr _).mono hzw)).trans (HA4.out.below (by simp; omega) (owns_fresh HOWN2.out).lo)); obtain ⟨p4, c4, rfl⟩ := owns_shape hown4; clear hown4 hgr4)
        | ((fail_if_success (have := HO5)); refine (HCALL.out w4 HB4.out).mono ?_; rintro e w5 ⟨v5, rfl, ho5, hb5⟩; have HO5 := hide ho5; have HB5 := hide hb5; obtain ⟨g5, c5, hv5, -, -⟩ := ho5.at_ (by rw [HRL.out]; exact hrp); rw [HRL.out] at hv5; subst hv5; clear ho5 hb5)
        | ((fail_if_success (have := HO6)); at_builtin; refine wpList_append_own _ rfl (.tmp 27) (.tmp 30) 23 rfl w.heap.size 45 i0 (.agg #[.int .i64 0, .string ByteArray.empty, .string ByteArray.empty, .int .i64 0, .int .i64 0]) 5 56 Tryz.underlying23 HI.out.1 HI.out.2.1 HI.out.2.2.1 HI.out.2.2.2 rfl (by decide) (.slice p4 (cnt + 1) c4) (cnt + 1) (X.flatMap Nd.cells ++ Nd.cells ⟨4, bl, noT, 0, bs⟩) rfl (owns_below HO4.out HB5.out) ⟨g5, 0, none⟩ RL c5 (N.flatMap Nd.cells) rfl (by rw [flat_len Nd.cells 5 Nd.cells_len, HRL.out]) (fun j u hj => by have := HO5.out; unfold NdOwn at this; rw [HRL.out] at this; exact NdOwn.cell (l := N) (c := c5) (base := w4.heap.size) (by unfold NdOwn; rw [HRL.out]; exact this) j u hj) (nds_one N) (by unfold maxLen; omega) (by omega) (by have := HB5.out.size; have := HB4.out.size; omega) ?_; intro v6 w6 hown6 hgr6 _; have HO6 := hide hown6; have HB6 : Hid (Below w.heap.size w w6) := hide ((HB4.out.trans (HB5.out.mono HB4.out.size)).trans ((grownBy_apart hgr6).below (by have := HB5.out.size; have := HB4.out.size; omega) (owns_fresh HO4.out).lo)); obtain ⟨p6, c6, rfl⟩ := owns_shape hown6; clear hown6 hgr6))
      go_roundw
      case rel =>
        refine ⟨k + 1, hlt, by go_num, ?_, HB6.out⟩
        have e := brs_take (f := rowN n) HB0.out
        rw [HN.out] at e
        rw [e, ← List.cons_append, ← List.cons_append, HX.out]
        refine NdOwn.snoc ?_
        rw [List.length_append, List.length_singleton, HCN.out, HRL.out, List.flatMap_append]
        simpa using HO6.out
      case measure => simp [intOf]; omega
    · obtain rfl : k = L := by omega
      have HE : Hid (X = ⟨op, a, b, (k : Int), s⟩ :: brsBy (rowN n) l) := hide (by rw [← HX.out, List.take_of_length_le (by rw [HLL.out]; exact Nat.le_refl _)])
      have HOWN3 : Hid (NdOwn wr w.heap.size (.slice p cnt c) X) := hide (by have := HOWN.out; exact this)
      go_wp2_with fail
      go_ret
      rw [← HE.out]
      exact ⟨_, rfl, HOWN3.out, HBEL.out⟩
end Go.Proofs.YtmjlblbhakppfaaGreatDoor
namespace Go.Proofs.YtmjlblbhakppfaaGreatDoor
open Go.RowKit
attribute [local go_sem ↓] Go.wp_at_zero Go.wp_at_succ

set_option maxRecDepth 100000 in
set_option maxHeartbeats 1000000 in
theorem row_msg (n : Nat) (l : List (Br (Pn n))) (hin : ∀ b ∈ l, RowCalls n b.p) (a b : ByteArray) (sl : Value) (w : World) (hs : BrS w (lo w.heap.size) sl l) (hlen : (brsBy (rowN n) l).length ≤ 999) : RowBy (talkV ⟨3, a, b⟩ sl) w (rowN (n + 1) (.talk ⟨3, a, b⟩ l)) := by
  refine ⟨_, _, 175, rfl, fun W => by kernel_rfl, fun W => by kernel_rfl, fun W hW => ?_⟩
  rw [row_talk]
  have HT : Hid (∀ (o : Obj), Calls Tryz.prog 176 #[.agg #[.int .i64 3, .string a, .string b, .int .i64 0, .int .i64 0], sl] (W.alloc o) fun e w' => Rowed (W.alloc o) w' e (⟨3, a, b, (l.length : Int), 0⟩ :: brsBy (rowN n) l)) := hide (fun o => talk_row n l hin 3 a b 0 0 sl _ ((hs.on hW).on (malloc1 W o)) hlen)
  obtain ⟨ao, cap, rfl, -⟩ := hs
  go_enter Tryz.func175, Tryz.ntmps175
  go_wp2_with (go_at_call 176; refine (HT.out _).mono ?_; rintro e w2 ⟨v2, rfl, h2, hb2⟩; have H2 := hide h2; have HB2 := hide hb2; clear h2 hb2)
  go_ret
  exact ⟨v2, rfl, owns_down H2.out (by simp), (malloc1 W _).trans (HB2.out.mono (by simp))⟩
set_option maxRecDepth 100000 in
set_option maxHeartbeats 1000000 in
theorem row_snd (n : Nat) (l : List (Br (Pn n))) (hin : ∀ b ∈ l, RowCalls n b.p) (b : ByteArray) (sl : Value) (w : World) (hs : BrS w (lo w.heap.size) sl l) (hlen : (brsBy (rowN n) l).length ≤ 999) : RowBy (talkV ⟨5, noT, b⟩ sl) w (rowN (n + 1) (.talk ⟨5, noT, b⟩ l)) := by
  refine ⟨_, _, 178, rfl, fun W => by kernel_rfl, fun W => by kernel_rfl, fun W hW => ?_⟩
  rw [row_talk]
  have HT : Hid (∀ (o : Obj), Calls Tryz.prog 176 #[.agg #[.int .i64 5, .string noT, .string b, .int .i64 0, .int .i64 0], sl] (W.alloc o) fun e w' => Rowed (W.alloc o) w' e (⟨5, noT, b, (l.length : Int), 0⟩ :: brsBy (rowN n) l)) := hide (fun o => talk_row n l hin 5 noT b 0 0 sl _ ((hs.on hW).on (malloc1 W o)) hlen)
  obtain ⟨ao, cap, rfl, -⟩ := hs
  go_enter Tryz.func178, Tryz.ntmps178
  go_wp2_with (go_at_call 176; refine (HT.out _).mono ?_; rintro e w2 ⟨v2, rfl, h2, hb2⟩; have H2 := hide h2; have HB2 := hide hb2; clear h2 hb2)
  go_ret
  exact ⟨v2, rfl, owns_down H2.out (by simp), (malloc1 W _).trans (HB2.out.mono (by simp))⟩
set_option maxRecDepth 100000 in
set_option maxHeartbeats 1000000 in
theorem row_rcv (n : Nat) (l : List (Br (Pn n))) (hin : ∀ b ∈ l, RowCalls n b.p) (b : ByteArray) (sl : Value) (w : World) (hs : BrS w (lo w.heap.size) sl l) (hlen : (brsBy (rowN n) l).length ≤ 999) : RowBy (talkV ⟨6, noT, b⟩ sl) w (rowN (n + 1) (.talk ⟨6, noT, b⟩ l)) := by
  refine ⟨_, _, 179, rfl, fun W => by kernel_rfl, fun W => by kernel_rfl, fun W hW => ?_⟩
  rw [row_talk]
  have HT : Hid (∀ (o : Obj), Calls Tryz.prog 176 #[.agg #[.int .i64 6, .string noT, .string b, .int .i64 0, .int .i64 0], sl] (W.alloc o) fun e w' => Rowed (W.alloc o) w' e (⟨6, noT, b, (l.length : Int), 0⟩ :: brsBy (rowN n) l)) := hide (fun o => talk_row n l hin 6 noT b 0 0 sl _ ((hs.on hW).on (malloc1 W o)) hlen)
  obtain ⟨ao, cap, rfl, -⟩ := hs
  go_enter Tryz.func179, Tryz.ntmps179
  go_wp2_with (go_at_call 176; refine (HT.out _).mono ?_; rintro e w2 ⟨v2, rfl, h2, hb2⟩; have H2 := hide h2; have HB2 := hide hb2; clear h2 hb2)
  go_ret
  exact ⟨v2, rfl, owns_down H2.out (by simp), (malloc1 W _).trans (HB2.out.mono (by simp))⟩
set_option maxRecDepth 100000 in
set_option maxHeartbeats 2000000 in
theorem row_rec (n : Nat) (q : Pn n) (hin : RowCalls n q) (x : ByteArray) (u : Value) (w : World) (hs : PcAt w (lo w.heap.size) n q u) (hlen : (rowN n q).length ≤ 999) : RowBy (.iface 111 (.agg #[.string x, u])) w (rowN (n + 1) (.loop x q)) := by
  refine ⟨_, _, 142, rfl, fun W => by kernel_rfl, fun W => by kernel_rfl, fun W hW => ?_⟩
  rw [row_loop]
  obtain ⟨i0, hi, hz0, hz1, hz2⟩ := info_parts Tryz.infoNd
  have HI := hide (And.intro hi (And.intro hz0 (And.intro hz1 hz2)))
  obtain ⟨T, av, K, rfl, hm, hcf, hcall⟩ := hin u w hs (by omega)
  have hrp := row_pos n q
  obtain ⟨N, hN⟩ : ∃ N, rowN n q = N := ⟨_, rfl⟩
  rw [hN] at hrp hlen hcall ⊢
  obtain ⟨RL, hRL⟩ : ∃ RL, N.length = RL := ⟨_, rfl⟩
  rw [hRL] at hrp hlen
  have HRL := hide hRL
  have HCALL : Hid (∀ V, Below W.heap.size W V → Calls Tryz.prog K #[av] V fun e w' => Rowed V w' e N) := hide (fun V hV => hcall V (hW.trans (hV.mono hW.size)))
  clear hi hz0 hz1 hz2 hN hRL hcall hin hs hW
  go_enter Tryz.func142, Tryz.ntmps142
  go_wp2_with fail
  go_region_law (first
    | (go_simp; (fail_if_success (have := HO5)); refine Calls.mono (HCALL.out _ (by first | exact (malloc1 W _).drew | exact (malloc1 W _).drew.trans ((malloc1 _ _).mono (by simp)))) ?_; rintro e w5 ⟨v5, rfl, ho5, hb5⟩; have HO5 := hide ho5; have HB5 := hide hb5; have HBW5 : Hid (Below W.heap.size W w5) := hide (by first | exact (malloc1 W _).drew.trans (hb5.mono (by simp)) | exact ((malloc1 W _).drew.trans ((malloc1 _ _).mono (by simp))).trans (hb5.mono (by simp; omega))); have y0 : w5.cell? ⟨W.heap.size, 0, none⟩ = some (.string x) := (by rw [hb5.cell (p := ⟨W.heap.size, 0, none⟩) (by first | (simp; done) | (simp; omega))]; simp); obtain ⟨g5, c5, hv5, -, -⟩ := ho5.at_ (by rw [HRL.out]; exact hrp); rw [HRL.out] at hv5; subst hv5; clear ho5 hb5)
    | (refine stepM_at rfl (.tmp 6) (.tmp 9) 23 rfl W.heap.size 45 i0 (.agg #[.int .i64 0, .string ByteArray.empty, .string ByteArray.empty, .int .i64 0, .int .i64 0]) 5 56 Tryz.underlying23 HI.out.1 HI.out.2.1 HI.out.2.2.1 HI.out.2.2.2 rfl (by decide) (.slice (some ⟨W.heap.size + 1, 0, none⟩) 1 1) 1 (Nd.cells ⟨2, x, noT, 0, 0⟩) (by simp [Act.eval]) (by have := owns_below (nd_lit (W.alloc (.cells #[.string x, .iface T av] 111)).drew ⟨2, x, noT, 0, 0⟩ W.heap.size (W.heap.size + 1) (by simp) (by simp)) HB5.out; exact this) ⟨g5, 0, none⟩ RL c5 (N.flatMap Nd.cells) (by simp [Act.eval]) (by rw [flat_len Nd.cells 5 Nd.cells_len, HRL.out]) (fun j u hj => by have := HO5.out; unfold NdOwn at this; rw [HRL.out] at this; exact NdOwn.cell (l := N) (c := c5) (by unfold NdOwn; rw [HRL.out]; exact this) j u hj) (nds_one N) (by unfold maxLen; omega) (by omega) (by have := HBW5.out.size; simp; omega) ?_; intro v6 w6 hown6 hgr6 hat6; have HO6 := hide hown6; have HB6 : Hid (Below W.heap.size W w6) := hide (HBW5.out.trans ((grownBy_apart hgr6).below HBW5.out.size (by simp [vblocks, cellBlocks]))); obtain ⟨p6, c6, rfl⟩ := owns_shape hown6; clear hown6 hgr6 hat6)
    | (refine stepM_at rfl (.tmp 6) (.tmp 9) 23 rfl W.heap.size 45 i0 (.agg #[.int .i64 0, .string ByteArray.empty, .string ByteArray.empty, .int .i64 0, .int .i64 0]) 5 56 Tryz.underlying23 HI.out.1 HI.out.2.1 HI.out.2.2.1 HI.out.2.2.2 rfl (by decide) (.slice (some ⟨w5.heap.size, 0, none⟩) 1 1) 1 (Nd.cells ⟨2, x, noT, 0, 0⟩) (by simp [Act.eval]) (by have := nd_lit w5 ⟨2, x, noT, 0, 0⟩ W.heap.size w5.heap.size rfl HBW5.out.size; exact this) ⟨g5, 0, none⟩ RL c5 (N.flatMap Nd.cells) (by simp [Act.eval]) (by rw [flat_len Nd.cells 5 Nd.cells_len, HRL.out]) (fun j u hj => by have := HO5.out.below (malloc1 w5 (.cells #[.int .i64 2, .string x, .string noT, .int .i64 0, .int .i64 0] 45)); unfold NdOwn at this; rw [HRL.out] at this; exact NdOwn.cell (l := N) (c := c5) (by unfold NdOwn; rw [HRL.out]; exact this) j u hj) (nds_one N) (by unfold maxLen; omega) (by omega) (by have := HBW5.out.size; simp; omega) ?_; intro v6 w6 hown6 hgr6 hat6; have HO6 := hide hown6; have HB6 : Hid (Below W.heap.size W w6) := hide ((HBW5.out.trans ((malloc1 w5 _).mono HBW5.out.size)).trans ((grownBy_apart hgr6).below (by have := HBW5.out.size; simp; omega) (by have := HBW5.out.size; simp [vblocks, cellBlocks]; omega))); obtain ⟨p6, c6, rfl⟩ := owns_shape hown6; clear hown6 hgr6 hat6)
    | fail)
  all_goals
    go_wp2_with fail
    go_ret
    refine ⟨_, rfl, ?_, HB6.out⟩
    have := HO6.out
    unfold NdOwn
    have e : (⟨2, x, noT, 0, 0⟩ :: N : List Nd).length = 1 + RL := by rw [List.length_cons, HRL.out, Nat.add_comm]
    rw [e, List.flatMap_cons]
    exact this
end Go.Proofs.YtmjlblbhakppfaaGreatDoor
namespace Go.Proofs.YtmjlblbhakppfaaGreatDoor
open Go.RowKit

def tkOk (t : Tk) : Prop := t.op = 3 ∨ ((t.op = 5 ∨ t.op = 6) ∧ t.a = noT)
def shapeN : (n : Nat) → Pn n → Prop
  | 0, _ => True
  | n + 1, p => p.by (fun _ => True) (fun _ q => shapeN n q) (fun t l => tkOk t ∧ l ≠ [] ∧ ∀ b ∈ l, shapeN n b.p)
theorem plan_shape : ∀ (n : Nat) (p : Pn n), planN n p → shapeN n p := by
  intro n
  induction n with
  | zero => intro p _; trivial
  | succ n ih =>
    intro p
    refine Pn.cases (P := fun p => planN (n + 1) p → shapeN (n + 1) p) (fun x _ => trivial) (fun x q hp => ih q hp) (fun t l hp => ?_) p
    have hp' : t.op = 3 ∧ (t.a.toList == t.b.toList) = false ∧ 1 ≤ l.length ∧ l.length ≤ 4 ∧ ∀ b ∈ l, planN n b.p := hp
    exact ⟨.inl hp'.1, (fun h => by have := hp'.2.2.1; rw [h] at this; simp at this), fun b hb => ih b.p (hp'.2.2.2.2 b hb)⟩
theorem up_shape : ∀ (n : Nat) (p : Pn n), shapeN n p → shapeN (n + 1) (upN n p) := by
  intro n
  induction n with
  | zero => intro p _; trivial
  | succ n ih =>
    intro p
    refine Pn.cases (P := fun p => shapeN (n + 1) p → shapeN (n + 2) (upN (n + 1) p)) (fun x _ => trivial) (fun x q hp => ih q hp) (fun t l hp => ?_) p
    have hp' : tkOk t ∧ l ≠ [] ∧ ∀ b ∈ l, shapeN n b.p := hp
    refine ⟨hp'.1, (fun h => hp'.2.1 (List.map_eq_nil_iff.1 h)), fun b hb => ?_⟩
    obtain ⟨c, hc, rfl⟩ := List.mem_map.1 hb
    exact ih c.p (hp'.2.2 c hc)
theorem mem_setP {α : Type} : ∀ {l : List α} {i : Nat} {x y : α}, y ∈ l.set i x → y ∈ l ∨ y = x
  | [], i, x, y, h => by simp at h
  | a :: l, 0, x, y, h => by
    rw [List.set_cons_zero, List.mem_cons] at h
    rcases h with h | h
    · exact .inr h
    · exact .inl (by simp [h])
  | a :: l, i + 1, x, y, h => by
    rw [List.set_cons_succ, List.mem_cons] at h
    rcases h with h | h
    · exact .inl (by simp [h])
    · rcases mem_setP h with q | q
      · exact .inl (by simp [q])
      · exact .inr q
theorem mergeBy_all {α : Type} {Q : α → Prop} {mg : α → α → Option α} (hmg : ∀ x y z, Q x → Q y → mg x y = some z → Q z) : ∀ (ds acc l : List (Br α)), (∀ b ∈ acc, Q b.p) → (∀ b ∈ ds, Q b.p) → mergeBy mg acc ds = some l → ∀ b ∈ l, Q b.p
  | [], acc, l, ha, _, h => by
    rw [mergeBy] at h
    injection h with h
    subst h
    exact ha
  | d :: ds, acc, l, ha, hd, h => by
    rw [mergeBy] at h
    split at h
    · exact mergeBy_all hmg ds _ l (fun b hb => by rw [List.mem_append] at hb; rcases hb with hb | hb; exact ha b hb; simp at hb; subst hb; exact hd b (by simp)) (fun b hb => hd b (by simp [hb])) h
    · rename_i i hi
      split at h
      · cases h
      · rename_i b hb
        split at h
        · cases h
        · rename_i q hq
          split at h
          · refine mergeBy_all hmg ds _ l (fun c hc => ?_) (fun b hb => hd b (by simp [hb])) h
            rcases mem_setP hc with hc | hc
            · exact ha c hc
            · subst hc
              exact hmg b.p d.p q (ha b (List.mem_of_getElem? hb)) (hd d (by simp)) hq
          · cases h
theorem mergeBy_ne {α : Type} {mg : α → α → Option α} : ∀ (ds acc l : List (Br α)), acc ≠ [] → mergeBy mg acc ds = some l → l ≠ []
  | [], acc, l, ha, h => by
    rw [mergeBy] at h
    injection h with h
    subst h
    exact ha
  | d :: ds, acc, l, ha, h => by
    rw [mergeBy] at h
    split at h
    · exact mergeBy_ne ds _ l (by simp) h
    · split at h
      · cases h
      · split at h
        · cases h
        · split at h
          · exact mergeBy_ne ds _ l (fun e => ha (by have := congrArg List.length e; rw [List.length_set] at this; exact List.length_eq_zero_iff.1 this)) h
          · cases h
theorem merge_shape : ∀ (n : Nat) (x y z : Pn n), shapeN n x → shapeN n y → mergeN n x y = some z → shapeN n z := by
  intro n
  induction n with
  | zero => intro x y z _ _ _; trivial
  | succ n ih =>
    intro x y z hx hy h
    rw [mergeN] at h
    split at h
    · injection h with h; subst h; exact hx
    · split at h
      · rename_i a cs b ds ex ey
        split at h
        · split at h
          · rename_i l hl
            split at h
            · injection h with h
              subst h
              obtain ⟨x', rfl⟩ := hear_some ex
              obtain ⟨y', rfl⟩ := hear_some ey
              have hx' : tkOk ⟨6, x', a⟩ ∧ cs ≠ [] ∧ ∀ b ∈ cs, shapeN n b.p := hx
              have hy' : tkOk ⟨6, y', b⟩ ∧ ds ≠ [] ∧ ∀ b ∈ ds, shapeN n b.p := hy
              exact ⟨.inr ⟨.inr rfl, rfl⟩, mergeBy_ne ds cs l hx'.2.1 hl, mergeBy_all (Q := shapeN n) ih ds cs l hx'.2.2 hy'.2.2 hl⟩
            · cases h
          · cases h
        · cases h
      · cases h
theorem mergeAll_all {α : Type} {Q : α → Prop} {mg : α → α → Option α} (hmg : ∀ x y z, Q x → Q y → mg x y = some z → Q z) : ∀ (r : List (Br α)) (x z : α), Q x → (∀ b ∈ r, Q b.p) → mergeAll mg x r = some z → Q z
  | [], x, z, hx, _, h => by rw [mergeAll] at h; injection h with h; subst h; exact hx
  | b :: r, x, z, hx, hr, h => by
    rw [mergeAll] at h
    split at h
    · cases h
    · rename_i q hq
      exact mergeAll_all hmg r q z (hmg x b.p q hx (hr b (by simp)) hq) (fun c hc => hr c (by simp [hc])) h
theorem parts_all {α : Type} {Q R : α → Prop} {g : α → Option α} (hg : ∀ x y, Q x → g x = some y → R y) : ∀ (l r : List (Br α)), (∀ b ∈ l, Q b.p) → partsBy g l = some r → ∀ b ∈ r, R b.p
  | [], r, _, h => by rw [partsBy] at h; injection h with h; subst h; intro b hb; cases hb
  | c :: l, r, hq, h => by
    rw [partsBy] at h
    split at h
    · cases h
    · rename_i q hq'
      split at h
      · cases h
      · rename_i r' hr'
        injection h with h
        subst h
        intro b hb
        rw [List.mem_cons] at hb
        rcases hb with rfl | hb
        · exact hg c.p q (hq c (by simp)) hq'
        · exact parts_all hg l r' (fun c hc => hq c (by simp [hc])) hr' b hb
theorem part_shape (role : ByteArray) : ∀ (n : Nat) (p q : Pn n), planN n p → partN role n p = some q → shapeN n q := by
  intro n
  induction n with
  | zero => intro p q _ _; trivial
  | succ n ih =>
    intro p
    refine Pn.cases (P := fun p => ∀ q, planN (n + 1) p → partN role (n + 1) p = some q → shapeN (n + 1) q) (fun x q _ h => ?_) (fun x p q hp h => ?_) (fun t l q hp h => ?_) p
    · have h' : some (Pn.leaf x) = some q := h
      injection h' with h'; subst h'; trivial
    · have h' : (if idleL role (rowN (n + 1) (.loop x p)) then some (Pn.leaf none) else (partN role n p).map (Pn.loop x)) = some q := h
      have hp' : planN n p := hp
      split at h'
      · injection h' with h'
        subst h'
        trivial
      · cases hq : partN role n p with
        | none => rw [hq] at h'; cases h'
        | some q' =>
          rw [hq] at h'
          simp only [Option.map_some, Option.some.injEq] at h'
          subst h'
          exact ih p q' hp' hq
    · have h' : (match partsBy (partN role n) l with
        | none => none
        | some r => if role.toList == t.a.toList then some (Pn.talk ⟨5, noT, t.b⟩ r) else if role.toList == t.b.toList then some (.talk ⟨6, noT, t.a⟩ r) else
          match r with
          | [] => none
          | c :: r => (mergeAll (mergeN n) c.p r).map (upN n)) = some q := h
      have hp' : t.op = 3 ∧ (t.a.toList == t.b.toList) = false ∧ 1 ≤ l.length ∧ l.length ≤ 4 ∧ ∀ b ∈ l, planN n b.p := hp
      split at h'
      · cases h'
      · rename_i r hr
        have hall := parts_all (Q := planN n) (R := shapeN n) (fun x y hx hy => ih x y hx hy) l r hp'.2.2.2.2 hr
        have hrn : r ≠ [] := fun e => by have := (parts_sz (f := rowN n) (Q := planN n) (fun x y hx hy => part_sz role n x y hx hy) l r hp'.2.2.2.2 hr).2; rw [e] at this; have := hp'.2.2.1; simp at *; omega
        split at h'
        · injection h' with h'
          subst h'
          exact ⟨.inr ⟨.inl rfl, rfl⟩, hrn, hall⟩
        · split at h'
          · injection h' with h'
            subst h'
            exact ⟨.inr ⟨.inr rfl, rfl⟩, hrn, hall⟩
          · split at h'
            · cases h'
            · rename_i c r
              cases hm : mergeAll (mergeN n) c.p r with
              | none => rw [hm] at h'; cases h'
              | some z =>
                rw [hm] at h'
                simp only [Option.map_some, Option.some.injEq] at h'
                subst h'
                exact up_shape n z (mergeAll_all (Q := shapeN n) (merge_shape n) r c.p z (hall c (by simp)) (fun b hb => hall b (by simp [hb])) hm)
theorem row_leaf_by (x : Option ByteArray) (v : Value) (w : World) (h : leafAt x v) : RowBy v w (leafRow x) := by
  cases x with
  | none => exact row_end v w h
  | some x => exact row_var x v w h
theorem row_calls : ∀ (n : Nat) (p : Pn n), shapeN n p → RowCalls n p := by
  intro n
  induction n with
  | zero => intro p _ v w h _; exact row_leaf_by p v w h
  | succ n ih =>
    intro p
    refine Pn.cases (P := fun p => shapeN (n + 1) p → RowCalls (n + 1) p) (fun x _ v w h _ => row_leaf_by x v w h) (fun x q hq v w h hl => ?_) (fun t l hp v w h hl => ?_) p
    · obtain ⟨u, rfl, h⟩ := h
      rw [row_loop] at hl
      exact row_rec n q (ih q hq) x u w h (by simp only [List.length_cons] at hl; omega)
    · obtain ⟨sl, rfl, h⟩ := h
      have hp' : tkOk t ∧ l ≠ [] ∧ ∀ b ∈ l, shapeN n b.p := hp
      have hin : ∀ b ∈ l, RowCalls n b.p := fun b hb => ih b.p (hp'.2.2 b hb)
      rw [row_talk] at hl
      have hl' : (brsBy (rowN n) l).length ≤ 999 := by simp only [List.length_cons] at hl; omega
      obtain ⟨op, a, b⟩ := t
      rcases hp'.1 with h3 | ⟨h5 | h6, ha⟩
      · dsimp only at h3; subst h3
        exact row_msg n l hin a b sl w h hl'
      · dsimp only at h5 ha; subst h5; subst ha
        exact row_snd n l hin b sl w h hl'
      · dsimp only at h6 ha; subst h6; subst ha
        exact row_rcv n l hin b sl w h hl'
end Go.Proofs.YtmjlblbhakppfaaGreatDoor
