/- The program's merging: the branch of a label; Nodes compared as wholes; branches copied. -/
import Derived.Test.YtmlkfnclniamiaaQPartOf25
import Derived.Lib.SliceRun
import Derived.Laws.AppendOwnNone
namespace Go.Proofs.Ytmlkfnclniamiaa
open Go.RowKit
attribute [local go_sem ↓] Go.wp_at_zero Go.wp_at_succ

def atB {α : Type} (t : ByteArray) (l : List (Br α)) : Int := match findB t l with
  | none => -1
  | some i => (i : Int)
theorem find_skip {α : Type} {t : ByteArray} : ∀ {l : List (Br α)} {k : Nat} {b : Br α}, (∀ j c, l[j]? = some c → j < k → (c.l.toList == t.toList) = false) → l[k]? = some b → (b.l.toList == t.toList) = true → findB t l = some k
  | [], k, b, _, hk, _ => by simp at hk
  | c :: l, 0, b, _, hk, h => by
    simp at hk
    subst hk
    rw [findB, if_pos h]
  | c :: l, k + 1, b, hn, hk, h => by
    have h0 := hn 0 c rfl (by omega)
    rw [findB, h0]
    rw [List.getElem?_cons_succ] at hk
    rw [find_skip (fun j d hj hjk => hn (j + 1) d (by rw [List.getElem?_cons_succ]; exact hj) (by omega)) hk h]
    rfl
theorem find_none {α : Type} {t : ByteArray} : ∀ {l : List (Br α)}, (∀ (j : Nat) (c : Br α), l[j]? = some c → (c.l.toList == t.toList) = false) → findB t l = none
  | [], _ => rfl
  | c :: l, hn => by
    rw [findB, hn 0 c rfl, find_none (fun j d hj => hn (j + 1) d (by rw [List.getElem?_cons_succ]; exact hj))]
    rfl
set_option maxRecDepth 100000 in
set_option maxHeartbeats 1000000 in
theorem branch_at (n : Nat) (t : ByteArray) (S : Nat → Prop) (l : List (Br (Pn n))) (v : Value) (w : World) (hs : BrS w S v l) (hl : l.length ≤ 1000) :
    Calls Try.prog 141 #[v, .string t] w fun e w' => e = .returned (.int .i64 (atB t l)) ∧ Below w.heap.size w w' := by
  obtain ⟨ao, cap, rfl, hc1, hc2, hr⟩ := hs
  have HR := hide hr
  obtain ⟨L, hL⟩ : ∃ L, l.length = L := ⟨_, rfl⟩
  rw [hL] at hc1 hl ⊢
  have HLL := hide hL
  clear hr hL
  go_enter Try.func141, Try.ntmps141
  go_wp2_with fail
  go_loopw [9] (fun i wr => ∃ k : Nat, k ≤ L ∧ i = .int .i64 k ∧ (∀ j c, l[j]? = some c → j < k → (c.l.toList == t.toList) = false) ∧ Below w.heap.size w wr) (fun i _ => L - (intOf i).toNat)
  case atStart => exact ⟨0, Nat.zero_le _, rfl, fun j _ _ h => absurd h (by omega), Below.refl _ _⟩
  case round =>
    obtain ⟨k, hk, rfl, hno, hbel⟩ := hrel
    have HNO := hide hno
    have HBEL := hide hbel
    have hzw := hbel.size
    clear hno
    by_cases hlt : k < L
    · obtain ⟨g, o, rfl, hg, hcells⟩ := HR.out (by rintro rfl; have := HLL.out; simp at this; omega)
      obtain ⟨b0, hb0⟩ : ∃ b0, l[k]? = some b0 := ⟨l[k]'(by rw [HLL.out]; exact hlt), List.getElem?_eq_getElem _⟩
      obtain ⟨k1, k2, u, k3, k4⟩ := hcells k b0 hb0
      obtain ⟨T, a, rfl⟩ := k4.shape
      have hgw : g < w.heap.size := World.block_lt_of_cell? w _ k1
      have e1 := (hbel.cell (p := ⟨g, o + k * 3, none⟩) hgw).trans k1
      have e2 := (hbel.cell (p := ⟨g, o + k * 3 + 1, none⟩) hgw).trans k2
      have e3 := (hbel.cell (p := ⟨g, o + k * 3 + 2, none⟩) hgw).trans k3
      have HB0 := hide hb0
      obtain ⟨bl, bs, bp⟩ := b0
      dsimp only at e1 e2
      clear hcells k1 k2 k3 k4 hb0 hbel
      cases heq : (bl.toList == t.toList)
      · go_wp2_with fail
        go_roundw
        case rel =>
          refine ⟨k + 1, hlt, by go_num, fun j c hj hjk => ?_, HBEL.out.trans ((malloc1 _ _).mono hzw)⟩
          by_cases hjk' : j = k
          · subst hjk'
            rw [HB0.out] at hj
            injection hj with hj
            subst hj
            exact heq
          · exact HNO.out j c hj (by omega)
        case measure => simp [intOf]; omega
      · go_wp2_with fail
        go_ret
        refine ⟨ret_int ?_, HBEL.out.trans ((malloc1 _ _).mono hzw)⟩
        rw [atB, find_skip HNO.out HB0.out heq]
    · go_wp2_with fail
      go_ret
      refine ⟨ret_int ?_, HBEL.out⟩
      rw [atB, find_none (fun j c hj => HNO.out j c hj (by have := (List.getElem?_eq_some_iff.1 hj).1; rw [HLL.out] at this; omega))]
end Go.Proofs.Ytmlkfnclniamiaa
/- Nodes compared as wholes, row by row. -/
namespace Go.Proofs.Ytmlkfnclniamiaa
open Go.RowKit
attribute [local go_sem ↓] Go.wp_at_zero Go.wp_at_succ

theorem nd_equal (a b : Nd) (W : World) : (Op.equalIn 10000 53 (.agg #[.int .i64 a.op, .string a.name, .string a.peer, .int .i64 a.many, .int .i64 a.sort]) (.agg #[.int .i64 b.op, .string b.name, .string b.peer, .int .i64 b.many, .int .i64 b.sort])).run Try.prog W = .ok (ndEq a b) W := by
  by_cases h1 : a.op = b.op
  · by_cases h2 : a.name.toList = b.name.toList
    · by_cases h3 : a.peer.toList = b.peer.toList
      · by_cases h4 : a.many = b.many
        · by_cases h5 : a.sort = b.sort
          all_goals
            go_simp
            simp [ndEq, h1, h2, h3, h4, h5]
        · go_simp
          simp [ndEq, h1, h2, h3, h4]
      · go_simp
        simp [ndEq, h1, h2, h3]
    · go_simp
      simp [ndEq, h1, h2]
  · go_simp
    simp [ndEq, h1]
theorem rowEq_len : ∀ {x y : List Nd}, x.length ≠ y.length → rowEq x y = false
  | [], [], h => absurd rfl h
  | [], _ :: _, _ => rfl
  | _ :: _, [], _ => rfl
  | a :: l, b :: r, h => by rw [rowEq, rowEq_len (fun e => h (by simp [e])), Bool.and_false]
theorem rowEq_no : ∀ {x y : List Nd} {k : Nat} (hx : k < x.length) (hy : k < y.length), ndEq x[k] y[k] = false → rowEq x y = false
  | a :: l, b :: r, 0, _, _, h => by simp only [List.getElem_cons_zero] at h; rw [rowEq, h, Bool.false_and]
  | a :: l, b :: r, k + 1, hx, hy, h => by
    simp only [List.getElem_cons_succ] at h
    rw [rowEq, rowEq_no (by simpa using hx) (by simpa using hy) h, Bool.and_false]
theorem rowEq_yes : ∀ {x y : List Nd}, x.length = y.length → (∀ k (hx : k < x.length) (hy : k < y.length), ndEq x[k] y[k] = true) → rowEq x y = true
  | [], [], _, _ => rfl
  | [], _ :: _, h, _ => by simp at h
  | _ :: _, [], h, _ => by simp at h
  | a :: l, b :: r, h, hall => by
    have h0 := hall 0 (by simp) (by simp)
    simp only [List.getElem_cons_zero] at h0
    rw [rowEq, h0, rowEq_yes (by simpa using h) (fun k hx hy => by have := hall (k + 1) (by simpa using hx) (by simpa using hy); simpa using this)]
    rfl
/-- Nodes that are read -/
def NdRd (w : World) (v : Value) (l : List Nd) : Prop := ∃ ao cap, v = .slice ao l.length cap ∧ l.length ≤ 1000 ∧ (l ≠ [] → ∃ g o, ao = some ⟨g, o, none⟩ ∧ g < w.heap.size ∧ RowAt w g o l)
theorem row_of (w : World) (g : Nat) : ∀ (l : List Nd) (o : Nat), (∀ j (hj : j < l.length), NodeAt w g (o + j * 5) l[j]) → RowAt w g o l
  | [], _, _ => trivial
  | x :: l, o, hx => by
    refine ⟨by have := hx 0 (by simp); simpa using this, row_of w g l (o + 5) (fun j hj => ?_)⟩
    have := hx (j + 1) (by simpa using hj)
    rw [show o + (j + 1) * 5 = o + 5 + j * 5 by omega] at this
    simpa using this
theorem NdOwn.rd {w : World} {base : Nat} {v : Value} {l : List Nd} (h : NdOwn w base v l) (hl : l.length ≤ 1000) : NdRd w v l := by
  have H := h
  obtain ⟨_, hh⟩ := h
  rcases hh with ⟨rfl, h0⟩ | ⟨gb, cap, cur, rfl, hg, hblk, hc, hm, _⟩
  · have : l = [] := List.length_eq_zero_iff.1 h0
    subst this
    exact ⟨none, 0, rfl, hl, fun h => absurd rfl h⟩
  · refine ⟨_, cap, rfl, hl, fun _ => ⟨gb, 0, rfl, (Array.getElem?_eq_some_iff.1 hblk).1, row_of w gb l 0 (fun j hj => ?_)⟩⟩
    rw [Nat.zero_add]
    have e := fun i (hi : i < 5) (x : Value) (hx : (l[j].cells)[i]? = some x) => owns_cell H rfl (j * 5 + i) x ((flat_get Nd.cells 5 Nd.cells_len l j hj i hi).trans hx)
    exact ⟨e 0 (by omega) _ rfl, e 1 (by omega) _ rfl, e 2 (by omega) _ rfl, e 3 (by omega) _ rfl, e 4 (by omega) _ rfl⟩
theorem NdRd.on {w w' : World} {v : Value} {l : List Nd} (h : NdRd w v l) (hb : Below w.heap.size w w') : NdRd w' v l := by
  obtain ⟨ao, cap, e, h1, h2⟩ := h
  refine ⟨ao, cap, e, h1, fun hne => ?_⟩
  obtain ⟨g, o, e1, e2, e3⟩ := h2 hne
  exact ⟨g, o, e1, Nat.lt_of_lt_of_le e2 hb.size, e3.carry e2 hb⟩
set_option maxRecDepth 100000 in
set_option maxHeartbeats 2000000 in
theorem nds_equal (x y : List Nd) (v u : Value) (w : World) (hx : NdRd w v x) (hy : NdRd w u y) :
    Calls Try.prog 138 #[v, u] w fun e w' => e = .returned (.bool (rowEq x y)) ∧ Below w.heap.size w w' := by
  obtain ⟨ax, cx, rfl, hlx, hrx⟩ := hx
  obtain ⟨ay, cy, rfl, hly, hry⟩ := hy
  have HRX := hide hrx
  have HRY := hide hry
  obtain ⟨L, hL⟩ : ∃ L, x.length = L := ⟨_, rfl⟩
  obtain ⟨M, hM⟩ : ∃ M, y.length = M := ⟨_, rfl⟩
  rw [hL] at hlx ⊢
  rw [hM] at hly ⊢
  have HL := hide hL
  have HM := hide hM
  clear hrx hry hL hM
  by_cases hne : L = M
  · subst hne
    go_enter Try.func138, Try.ntmps138
    go_wp2_with fail
    go_loopw [13] (fun i wr => ∃ k : Nat, k ≤ L ∧ i = .int .i64 k ∧ (∀ j (h1 : j < x.length) (h2 : j < y.length), j < k → ndEq x[j] y[j] = true) ∧ Below w.heap.size w wr) (fun i _ => L - (intOf i).toNat)
    case atStart => exact ⟨0, Nat.zero_le _, rfl, fun j _ _ h => absurd h (by omega), Below.refl _ _⟩
    case round =>
      obtain ⟨k, hk, rfl, hall, hbel⟩ := hrel
      have HA := hide hall
      have HBEL := hide hbel
      clear hall
      by_cases hlt : k < L
      · have hkx : k < x.length := by rw [HL.out]; exact hlt
        have hky : k < y.length := by rw [HM.out]; exact hlt
        obtain ⟨b, o, rfl, hbB, hrow⟩ := HRX.out (by intro h; rw [h] at hkx; simp at hkx)
        obtain ⟨b', o', rfl, hbB', hrow'⟩ := HRY.out (by intro h; rw [h] at hky; simp at hky)
        have hn1 := (hrow.get k hkx).carry hbB hbel
        have hn2 := (hrow'.get k hky).carry hbB' hbel
        obtain ⟨x1, hx1⟩ : ∃ x1, x[k] = x1 := ⟨_, rfl⟩
        obtain ⟨y1, hy1⟩ : ∃ y1, y[k] = y1 := ⟨_, rfl⟩
        rw [hx1] at hn1
        rw [hy1] at hn2
        obtain ⟨c0, c1, c2, c3, c4⟩ := hn1
        obtain ⟨d0, d1, d2, d3, d4⟩ := hn2
        obtain ⟨r, hr⟩ : ∃ r, ndEq x1 y1 = r := ⟨_, rfl⟩
        have heq : ∀ W, (Op.equalIn 10000 53 (.agg #[.int .i64 x1.op, .string x1.name, .string x1.peer, .int .i64 x1.many, .int .i64 x1.sort]) (.agg #[.int .i64 y1.op, .string y1.name, .string y1.peer, .int .i64 y1.many, .int .i64 y1.sort])).run Try.prog W = .ok r W := fun W => by rw [nd_equal, hr]
        have HRR := hide hr
        have HX1 := hide hx1
        have HY1 := hide hy1
        clear hrow hrow' hr hx1 hy1 hbel
        cases r
        · go_wp2_with fail
          go_region
          go_wp2_with fail
          all_goals
            go_ret
            exact ⟨ret_bool (rowEq_no hkx hky (by rw [HX1.out, HY1.out]; exact HRR.out)), by first | exact HBEL.out | exact HBEL.out.drew⟩
        · go_wp2_with fail
          go_region
          go_wp2_with fail
          all_goals
            go_roundw
            case rel =>
              refine ⟨k + 1, hlt, by go_num, fun j h1 h2 hjk => ?_, by first | exact HBEL.out | exact HBEL.out.drew⟩
              by_cases hjk' : j = k
              · subst hjk'; rw [HX1.out, HY1.out]; exact HRR.out
              · exact HA.out j h1 h2 (by omega)
            case measure => simp [intOf]; omega
      · go_wp2_with fail
        go_ret
        exact ⟨ret_bool (rowEq_yes (by rw [HL.out, HM.out]) (fun j h1 h2 => HA.out j h1 h2 (by rw [HL.out] at h1; omega))), HBEL.out⟩
  · have HF : Hid (rowEq x y = false) := hide (rowEq_len (by rw [HL.out, HM.out]; exact hne))
    have hq : ((L : Int) == (M : Int)) = false := beq_eq_false_iff_ne.2 (by omega)
    go_enter Try.func138, Try.ntmps138
    go_wp2_with fail
    go_ret
    exact ⟨ret_bool HF.out, Below.refl _ _⟩
end Go.Proofs.Ytmlkfnclniamiaa
