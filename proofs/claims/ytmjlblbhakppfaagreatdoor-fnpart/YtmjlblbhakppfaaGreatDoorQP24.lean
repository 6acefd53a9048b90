import Derived.Test.YtmjlblbhakppfaaGreatDoorQP20
import Derived.Lib.SliceRun
import Derived.Laws.AppendOwnNone
namespace Go.Proofs.YtmjlblbhakppfaaGreatDoor
open Go.RowKit
attribute [local go_sem ↓] Go.wp_at_zero Go.wp_at_succ

def atB {α : Type} (t : ByteArray) (l : List (Br α)) : Int := match findB t l with
  | none => -1
  | some i => (i : Int)
theorem find_skip {α : Type} {t : ByteArray} : ∀ {l : List (Br α)} {k : Nat} {b : Br α}, (∀ j c, l[j]? = some c → j < k → (c.l.toList == t.toList) = false) → l[k]? = some b → (b.l.toList == t.toList) = true → findB t l = some k
  | [], k, b, _, hk, _ => by simp at hk
  | c :: l, 0, b, _, hk, h => by
    simp at hk
    subst hk
    rw [findB, if_pos h]
  | c :: l, k + 1, b, hn, hk, h => by
    have h0 := hn 0 c rfl (by omega)
    rw [findB, h0]
    rw [List.getElem?_cons_succ] at hk
    rw [find_skip (fun j d hj hjk => hn (j + 1) d (by rw [List.getElem?_cons_succ]; exact hj) (by omega)) hk h]
    rfl
theorem find_none {α : Type} {t : ByteArray} : ∀ {l : List (Br α)}, (∀ (j : Nat) (c : Br α), l[j]? = some c → (c.l.toList == t.toList) = false) → findB t l = none
  | [], _ => rfl
  | c :: l, hn => by
    rw [findB, hn 0 c rfl, find_none (fun j d hj => hn (j + 1) d (by rw [List.getElem?_cons_succ]; exact hj))]
    rfl
set_option maxRecDepth 100000 in
set_option maxHeartbeats 1000000 in
theorem branch_at (n : Nat) (t : ByteArray) (S : Nat → Prop) (l : List (Br (Pn n))) (v : Value) (w : World) (hs : BrS w S v l) (hl : l.length ≤ 1000) :
    Calls Tryz.prog 157 #[v, .string t] w fun e w' => e = .returned (.int .i64 (atB t l)) ∧ Below w.heap.size w w' := by
  obtain ⟨ao, cap, rfl, hc1, hc2, hr⟩ := hs
  have HR := hide hr
  obtain ⟨L, hL⟩ : ∃ L, l.length = L := ⟨_, rfl⟩
  rw [hL] at hc1 hl ⊢
  have HLL := hide hL
  clear hr hL
  go_enter Tryz.func157, Tryz.ntmps157
  go_wp2_with fail
  go_loopw [9] (fun i wr => ∃ k : Nat, k ≤ L ∧ i = .int .i64 k ∧ (∀ j c, l[j]? = some c → j < k → (c.l.toList == t.toList) = false) ∧ Below w.heap.size w wr) (fun i _ => L - (intOf i).toNat)
  case atStart => exact ⟨0, Nat.zero_le _, rfl, fun j _ _ h => absurd h (by omega), Below.refl _ _⟩
  case round =>
    obtain ⟨k, hk, rfl, hno, hbel⟩ := hrel
    have HNO := hide hno
    have HBEL := hide hbel
    have hzw := hbel.size
    clear hno
    by_cases hlt : k < L
    · obtain ⟨g, o, rfl, hg, hcells⟩ := HR.out (by rintro rfl; have := HLL.out; simp at this; omega)
      obtain ⟨b0, hb0⟩ : ∃ b0, l[k]? = some b0 := ⟨l[k]'(by rw [HLL.out]; exact hlt), List.getElem?_eq_getElem _⟩
      obtain ⟨k1, k2, u, k3, k4⟩ := hcells k b0 hb0
      obtain ⟨T, a, rfl⟩ := k4.shape
      have hgw : g < w.heap.size := World.block_lt_of_cell? w _ k1
      have e1 := (hbel.cell (p := ⟨g, o + k * 3, none⟩) hgw).trans k1
      have e2 := (hbel.cell (p := ⟨g, o + k * 3 + 1, none⟩) hgw).trans k2
      have e3 := (hbel.cell (p := ⟨g, o + k * 3 + 2, none⟩) hgw).trans k3
      have HB0 := hide hb0
      obtain ⟨bl, bs, bp⟩ := b0
      dsimp only at e1 e2
      clear hcells k1 k2 k3 k4 hb0 hbel
      cases heq : (bl.toList == t.toList)
      · go_wp2_with fail
        go_roundw
        case rel =>
          refine ⟨k + 1, hlt, by go_num, fun j c hj hjk => ?_, HBEL.out.trans ((malloc1 _ _).mono hzw)⟩
          by_cases hjk' : j = k
          · subst hjk'
            rw [HB0.out] at hj
            injection hj with hj
            subst hj
            exact heq
          · exact HNO.out j c hj (by omega)
        case measure => simp [intOf]; omega
      · go_wp2_with fail
        go_ret
        refine ⟨ret_int ?_, HBEL.out.trans ((malloc1 _ _).mono hzw)⟩
        rw [atB, find_skip HNO.out HB0.out heq]
    · go_wp2_with fail
      go_ret
      refine ⟨ret_int ?_, HBEL.out⟩
      rw [atB, find_none (fun j c hj => HNO.out j c hj (by have := (List.getElem?_eq_some_iff.1 hj).1; rw [HLL.out] at this; omega))]
end Go.Proofs.YtmjlblbhakppfaaGreatDoor
namespace Go.Proofs.YtmjlblbhakppfaaGreatDoor
open Go.RowKit
attribute [local go_sem ↓] Go.wp_at_zero Go.wp_at_succ

theorem nd_equal (a b : Nd) (W : World) : (Op.equalIn 10000 45 (.agg #[.int .i64 a.op, .string a.name, .string a.peer, .int .i64 a.many, .int .i64 a.sort]) (.agg #[.int .i64 b.op, .string b.name, .string b.peer, .int .i64 b.many, .int .i64 b.sort])).run Tryz.prog W = .ok (ndEq a b) W := by
  by_cases h1 : a.op = b.op
  · by_cases h2 : a.name.toList = b.name.toList
    · by_cases h3 : a.peer.toList = b.peer.toList
      · by_cases h4 : a.many = b.many
        · by_cases h5 : a.sort = b.sort
          all_goals
            go_simp
            simp [ndEq, h1, h2, h3, h4, h5]
        · go_simp
          simp [ndEq, h1, h2, h3, h4]
      · go_simp
        simp [ndEq, h1, h2, h3]
    · go_simp
      simp [ndEq, h1, h2]
  · go_simp
    simp [ndEq, h1]
theorem rowEq_len : ∀ {x y : List Nd}, x.length ≠ y.length → rowEq x y = false
  | [], [], h => absurd rfl h
  | [], _ :: _, _ => rfl
  | _ :: _, [], _ => rfl
  | a :: l, b :: r, h => by rw [rowEq, rowEq_len (fun e => h (by simp [e])), Bool.and_false]
theorem rowEq_no : ∀ {x y : List Nd} {k : Nat} (hx : k < x.length) (hy : k < y.length), ndEq x[k] y[k] = false → rowEq x y = false
  | a :: l, b :: r, 0, _, _, h => by simp only [List.getElem_cons_zero] at h; rw [rowEq, h, Bool.false_and]
  | a :: l, b :: r, k + 1, hx, hy, h => by
    simp only [List.getElem_cons_succ] at h
    rw [rowEq, rowEq_no (by simpa using hx) (by simpa using hy) h, Bool.and_false]
theorem rowEq_yes : ∀ {x y : List Nd}, x.length = y.length → (∀ k (hx : k < x.length) (hy : k < y.length), ndEq x[k] y[k] = true) → rowEq x y = true
  | [], [], _, _ => rfl
  | [], _ :: _, h, _ => by simp at h
  | _ :: _, [], h, _ => by simp at h
  | a :: l, b :: r, h, hall => by
    have h0 := hall 0 (by simp) (by simp)
    simp only [List.getElem_cons_zero] at h0
    rw [rowEq, h0, rowEq_yes (by simpa using h) (fun k hx hy => by have := hall (k + 1) (by simpa using hx) (by simpa using hy); simpa using this)]
    rfl
def NdRd (w : World) (v : Value) (l : List Nd) : Prop := ∃ ao cap, v = .slice ao l.length cap ∧ l.length ≤ 1000 ∧ (l ≠ [] → ∃ g o, ao = some ⟨g, o, none⟩ ∧ g < w.heap.size ∧ RowAt w g o l)
theorem row_of (w : World) (g : Nat) : ∀ (l : List Nd) (o : Nat), (∀ j (hj : j < l.length), NodeAt w g (o + j * 5) l[j]) → RowAt w g o l
  | [], _, _ => trivial
  | x :: l, o, hx => by
    refine ⟨by have := hx 0 (by simp); simpa using this, row_of w g l (o + 5) (fun j hj => ?_)⟩
    have := hx (j + 1) (by simpa using hj)
    rw [show o + (j + 1) * 5 = o + 5 + j * 5 by omega] at this
    simpa using this
theorem NdOwn.rd {w : World} {base : Nat} {v : Value} {l : List Nd} (h : NdOwn w base v l) (hl : l.length ≤ 1000) : NdRd w v l := by
  have H := h
  obtain ⟨_, hh⟩ := h
  rcases hh with ⟨rfl, h0⟩ | ⟨gb, cap, cur, rfl, hg, hblk, hc, hm, _⟩
  · have : l = [] := List.length_eq_zero_iff.1 h0
    subst this
    exact ⟨none, 0, rfl, hl, fun h => absurd rfl h⟩
  · refine ⟨_, cap, rfl, hl, fun _ => ⟨gb, 0, rfl, (Array.getElem?_eq_some_iff.1 hblk).1, row_of w gb l 0 (fun j hj => ?_)⟩⟩
    rw [Nat.zero_add]
    have e := fun i (hi : i < 5) (x : Value) (hx : (l[j].cells)[i]? = some x) => owns_cell H rfl (j * 5 + i) x ((flat_get Nd.cells 5 Nd.cells_len l j hj i hi).trans hx)
    exact ⟨e 0 (by omega) _ rfl, e 1 (by omega) _ rfl, e 2 (by omega) _ rfl, e 3 (by omega) _ rfl, e 4 (by omega) _ rfl⟩
theorem NdRd.on {w w' : World} {v : Value} {l : List Nd} (h : NdRd w v l) (hb : Below w.heap.size w w') : NdRd w' v l := by
  obtain ⟨ao, cap, e, h1, h2⟩ := h
  refine ⟨ao, cap, e, h1, fun hne => ?_⟩
  obtain ⟨g, o, e1, e2, e3⟩ := h2 hne
  exact ⟨g, o, e1, Nat.lt_of_lt_of_le e2 hb.size, e3.carry e2 hb⟩
set_option maxRecDepth 100000 in
set_option maxHeartbeats 2000000 in
theorem nds_equal (x y : List Nd) (v u : Value) (w : World) (hx : NdRd w v x) (hy : NdRd w u y) :
    Calls Tryz.prog 152 #[v, u] w fun e w' => e = .returned (.bool (rowEq x y)) ∧ Below w.heap.size w w' := by
  obtain ⟨ax, cx, rfl, hlx, hrx⟩ := hx
  obtain ⟨ay, cy, rfl, hly, hry⟩ := hy
  have HRX := hide hrx
  have HRY := hide hry
  obtain ⟨L, hL⟩ : ∃ L, x.length = L := ⟨_, rfl⟩
  obtain ⟨M, hM⟩ : ∃ M, y.length = M := ⟨_, rfl⟩
  rw [hL] at hlx ⊢
  rw [hM] at hly ⊢
  have HL := hide hL
  have HM := hide hM
  clear hrx hry hL hM
  by_cases hne : L = M
  · subst hne
    go_enter Tryz.func152, Tryz.ntmps152
    go_wp2_with fail
    go_loopw [13] (fun i wr => ∃ k : Nat, k ≤ L ∧ i = .int .i64 k ∧ (∀ j (h1 : j < x.length) (h2 : j < y.length), j < k → ndEq x[j] y[j] = true) ∧ Below w.heap.size w wr) (fun i _ => L - (intOf i).toNat)
    case atStart => exact ⟨0, Nat.zero_le _, rfl, fun j _ _ h => absurd h (by omega), Below.refl _ _⟩
    case round =>
      obtain ⟨k, hk, rfl, hall, hbel⟩ := hrel
      have HA := hide hall
      have HBEL := hide hbel
      clear hall
      by_cases hlt : k < L
      · have hkx : k < x.length := by rw [HL.out]; exact hlt
        have hky : k < y.length := by rw [HM.out]; exact hlt
        obtain ⟨b, o, rfl, hbB, hrow⟩ := HRX.out (by intro h; rw [h] at hkx; simp at hkx)
        obtain ⟨b', o', rfl, hbB', hrow'⟩ := HRY.out (by intro h; rw [h] at hky; simp at hky)
        have hn1 := (hrow.get k hkx).carry hbB hbel
        have hn2 := (hrow'.get k hky).carry hbB' hbel
        obtain ⟨x1, hx1⟩ : ∃ x1, x[k] = x1 := ⟨_, rfl⟩
        obtain ⟨y1, hy1⟩ : ∃ y1, y[k] = y1 := ⟨_, rfl⟩
        rw [hx1] at hn1
        rw [hy1] at hn2
        obtain ⟨c0, c1, c2, c3, c4⟩ := hn1
        obtain ⟨d0, d1, d2, d3, d4⟩ := hn2
        obtain ⟨r, hr⟩ : ∃ r, ndEq x1 y1 = r := ⟨_, rfl⟩
        have heq : ∀ W, (Op.equalIn 10000 45 (.agg #[.int .i64 x1.op, .string x1.name, .string x1.peer, .int .i64 x1.many, .int .i64 x1.sort]) (.agg #[.int .i64 y1.op, .string y1.name, .string y1.peer, .int .i64 y1.many, .int .i64 y1.sort])).run Tryz.prog W = .ok r W := fun W => by rw [nd_equal, hr]
        have HRR := hide hr
        have HX1 := hide hx1
        have HY1 := hide hy1
        clear hrow hrow' hr hx1 hy1 hbel
        cases r
        · go_wp2_with fail
          go_region
          go_wp2_with fail
          all_goals
            go_ret
            exact ⟨ret_bool (rowEq_no hkx hky (by rw [HX1.out, HY1.out]; exact HRR.out)), by first | exact HBEL.out | exact HBEL.out.drew⟩
        · go_wp2_with fail
          go_region
          go_wp2_with fail
          all_goals
            go_roundw
            case rel =>
              refine ⟨k + 1, hlt, by go_num, fun j h1 h2 hjk => ?_, by first | exact HBEL.out | exact HBEL.out.drew⟩
              by_cases hjk' : j = k
              · subst hjk'; rw [HX1.out, HY1.out]; exact HRR.out
              · exact HA.out j h1 h2 (by omega)
            case measure => simp [intOf]; omega
      · go_wp2_with fail
        go_ret
        exact ⟨ret_bool (rowEq_yes (by rw [HL.out, HM.out]) (fun j h1 h2 => HA.out j h1 h2 (by rw [HL.out] at h1; omega))), HBEL.out⟩
  · have HF : Hid (rowEq x y = false) := hide (rowEq_len (by rw [HL.out, HM.out]; exact hne))
    have hq : ((L : Int) == (M : Int)) = false := beq_eq_false_iff_ne.2 (by omega)
    go_enter Tryz.func152, Tryz.ntmps152
    go_wp2_with fail
    go_ret
    exact ⟨ret_bool HF.out, Below.refl _ _⟩
end Go.Proofs.YtmjlblbhakppfaaGreatDoor
namespace Go.Proofs.YtmjlblbhakppfaaGreatDoor
open Go.RowKit
attribute [local go_sem ↓] Go.wp_at_zero Go.wp_at_succ

def plus (S : Nat → Prop) (a m : Nat) : Nat → Prop := fun b => S b ∨ (a ≤ b ∧ b < m)
def but (S : Nat → Prop) (a m : Nat) (v : Value) : Nat → Prop := fun b => plus S a m b ∧ b ∉ vblocks v
section
variable {n : Nat}
structure BrO (S : Nat → Prop) (a : Nat) (w : World) (base : Nat) (v : Value) (l : List (BV n)) : Prop where
  own : w.ownsRow base 149 3 v l.length (l.flatMap BV.cells)
  pcs : ∀ x ∈ l, PcAt w (but S a w.heap.size v) n x.b.p x.u
  low : ∀ g, S g → g < a
  ab : a ≤ base
  siz : a ≤ w.heap.size
theorem plus_lt {S : Nat → Prop} {a m g : Nat} (hl : ∀ g, S g → g < a) (ha : a ≤ m) (h : plus S a m g) : g < m := by
  rcases h with h | h
  · have := hl g h; omega
  · exact h.2
theorem plus_up {S : Nat → Prop} {a m m' g : Nat} (hm : m ≤ m') (h : plus S a m g) : plus S a m' g := by
  rcases h with h | h
  · exact .inl h
  · exact .inr ⟨h.1, by omega⟩
variable {S : Nat → Prop} {a : Nat}
theorem BrO.keep {w w' : World} {base : Nat} {v : Value} {l : List (BV n)} (h : BrO S a w base v l) (hb : Below w.heap.size w w') : BrO S a w' base v l :=
  ⟨owns_below h.own hb, fun x hx => PcAt.carry (fun g hg => hb.block g (plus_lt h.low h.siz hg.1)) (fun _ hg => ⟨plus_up hb.size hg.1, hg.2⟩) _ _ _ (h.pcs x hx), h.low, h.ab, Nat.le_trans h.siz hb.size⟩
theorem BrO.sl {w : World} {base : Nat} {v : Value} {l : List (BV n)} (h : BrO S a w base v l) : BrS w (plus S a w.heap.size) v (l.map BV.b) := by
  rcases h.own.2 with ⟨rfl, h0⟩ | ⟨g, cap, cur, rfl, hg, hblk, hc, hm, _⟩
  · have e : l = [] := List.length_eq_zero_iff.1 h0
    subst e
    exact ⟨none, 0, rfl, Nat.le_refl _, Nat.zero_le _, fun hne => absurd rfl hne⟩
  · refine ⟨some ⟨g, 0, none⟩, cap, by rw [List.length_map], by rw [List.length_map]; exact hc, hm, fun _ => ⟨g, 0, rfl, .inr ⟨Nat.le_trans h.ab hg, (Array.getElem?_eq_some_iff.1 hblk).1⟩, fun i b hb => ?_⟩⟩
    rw [List.getElem?_map] at hb
    cases hx : l[i]? with
    | none => rw [hx] at hb; cases hb
    | some x =>
      rw [hx] at hb
      simp only [Option.map_some, Option.some.injEq] at hb
      subst hb
      obtain ⟨hlt, hxe⟩ := List.getElem?_eq_some_iff.1 hx
      have e := fun j (hj : j < 3) (y : Value) (hy : (x.cells)[j]? = some y) => owns_cell h.own rfl (i * 3 + j) y ((flat_get BV.cells 3 BV.cells_len l i hlt j hj).trans (by rw [hxe]; exact hy))
      rw [Nat.zero_add]
      exact ⟨e 0 (by omega) _ rfl, e 1 (by omega) _ rfl, x.u, e 2 (by omega) _ rfl, (h.pcs x (by rw [← hxe]; exact List.getElem_mem hlt)).up (fun _ hg => hg.1)⟩
theorem bro_push {w w2 : World} {base : Nat} {v v' : Value} {l : List (BV n)} (h : BrO S a w base v l) (x : BV n) (hx : PcAt w (but S a w.heap.size v) n x.b.p x.u) (o : Obj) (hown : w2.ownsRow base 149 3 v' (l.length + 1) (l.flatMap BV.cells ++ x.cells)) (hg : (w.alloc o).grownBy w2 v.ownBlock) (hat : v'.ownBlock = v.ownBlock ∨ v'.ownBlock = some (w.alloc o).heap.size) : BrO S a w2 base v' (l ++ [x]) ∧ Apart w w2 (vblocks v) := by
  obtain ⟨p, c, hv⟩ := owns_shape h.own
  obtain ⟨p', c', hv'⟩ := owns_shape hown
  have hA : Apart w w2 (vblocks v) := by
    rw [hv] at hg ⊢
    have := (below_apart (malloc1 w o)).trans (grownBy_apart hg)
    rwa [List.nil_append] at this
  have key : ∀ {q : Pn n} {u : Value}, PcAt w (but S a w.heap.size v) n q u → PcAt w2 (but S a w2.heap.size v') n q u := fun hq => PcAt.carry (fun g hg => hA.block g (plus_lt h.low h.siz hg.1) hg.2) (fun g hg => ⟨plus_up hA.size hg.1, fun hm => by
    have hm' := (own_blocks hv').2 hm
    rcases hat with e | e
    · rw [e] at hm'
      exact hg.2 ((own_blocks hv).1 hm')
    · rw [e] at hm'
      have := plus_lt h.low h.siz hg.1
      simp at hm'
      omega⟩) _ _ _ hq
  refine ⟨⟨?_, fun y hy => ?_, h.low, h.ab, Nat.le_trans h.siz hA.size⟩, hA⟩
  · rw [List.length_append, List.length_singleton, List.flatMap_append]
    simpa using hown
  · rw [List.mem_append] at hy
    rcases hy with hy | hy
    · exact key (h.pcs y hy)
    · simp at hy
      subst hy
      exact key hx
theorem flat_setP : ∀ (l : List (BV n)) (i : Nat) (x : BV n) (u : Value), l[i]? = some x → (l.flatMap BV.cells).set (i * 3 + 2) u = (l.set i ⟨x.b, u⟩).flatMap BV.cells
  | [], i, x, u, h => by simp at h
  | a :: l, 0, x, u, h => by
    simp at h
    subst h
    rfl
  | a :: l, i + 1, x, u, h => by
    rw [List.getElem?_cons_succ] at h
    rw [List.set_cons_succ, List.flatMap_cons, List.flatMap_cons, ← flat_setP l i x u h]
    have e : (i + 1) * 3 + 2 = a.cells.length + (i * 3 + 2) := by rw [BV.cells_len]; omega
    rw [e, List.set_append_right _ _ (by omega), Nat.add_sub_cancel_left]
theorem bro_set {w : World} {base g cap : Nat} {l : List (BV n)} (h : BrO S a w base (.slice (some ⟨g, 0, none⟩) l.length cap) l) {i : Nat} {x : BV n} (hi : l[i]? = some x) (q : Pn n) (u : Value) (hu : PcAt w (but S a w.heap.size (.slice (some ⟨g, 0, none⟩) l.length cap)) n q u) : BrO S a (w.setCell ⟨g, i * 3 + 2, none⟩ u) base (.slice (some ⟨g, 0, none⟩) l.length cap) (l.set i ⟨⟨x.b.l, x.b.s, q⟩, u⟩) ∧ Apart w (w.setCell ⟨g, i * 3 + 2, none⟩ u) [g] := by
  have hA := setCell_apart w g (i * 3 + 2) u
  have key : ∀ {q : Pn n} {u' : Value}, PcAt w (but S a w.heap.size (.slice (some ⟨g, 0, none⟩) l.length cap)) n q u' → PcAt (w.setCell ⟨g, i * 3 + 2, none⟩ u) (but S a (w.setCell ⟨g, i * 3 + 2, none⟩ u).heap.size (.slice (some ⟨g, 0, none⟩) l.length cap)) n q u' := fun hq => PcAt.carry (fun b hb => hA.block b (plus_lt h.low h.siz hb.1) (fun hm => hb.2 (by simpa [vblocks, cellBlocks] using hm))) (fun b hb => ⟨plus_up hA.size hb.1, hb.2⟩) _ _ _ hq
  refine ⟨⟨?_, fun y hy => ?_, h.low, h.ab, Nat.le_trans h.siz hA.size⟩, hA⟩
  · have := (World.ownsRow.stored h.own (i * 3 + 2) u).1
    rw [flat_setP l i x u hi] at this
    rw [List.length_set]
    have e : (l.set i ⟨x.b, u⟩).flatMap BV.cells = (l.set i ⟨⟨x.b.l, x.b.s, q⟩, u⟩).flatMap BV.cells := by
      clear hi this hu h hA key
      induction l generalizing i with
      | nil => rfl
      | cons a l ih =>
        cases i with
        | zero => rfl
        | succ i => rw [List.set_cons_succ, List.set_cons_succ, List.flatMap_cons, List.flatMap_cons, ih]
    rw [← e]
    exact this
  · rcases mem_setP hy with hy | hy
    · exact key (h.pcs y hy)
    · subst hy
      exact key hu
end
theorem bvs_of {n : Nat} {w : World} {S : Nat → Prop} {g o : Nat} : ∀ (l : List (Br (Pn n))), (∀ (i : Nat) (b : Br (Pn n)), l[i]? = some b → w.cell? ⟨g, o + i * 3, none⟩ = some (.string b.l) ∧ w.cell? ⟨g, o + i * 3 + 1, none⟩ = some (.int .i64 b.s) ∧ ∃ u, w.cell? ⟨g, o + i * 3 + 2, none⟩ = some u ∧ PcAt w S n b.p u) → ∃ L : List (BV n), L.map BV.b = l ∧ (∀ x ∈ L, PcAt w S n x.b.p x.u) ∧ ∀ j u, (L.flatMap BV.cells)[j]? = some u → w.cell? ⟨g, o + j, none⟩ = some u := by
  intro l
  induction l generalizing o with
  | nil => exact fun _ => ⟨[], rfl, (fun x hx => by cases hx), (fun j u hj => by simp at hj)⟩
  | cons b l ih =>
    intro h
    obtain ⟨h1, h2, u, h3, h4⟩ := h 0 b rfl
    obtain ⟨L, e1, e2, e3⟩ := ih (o := o + 3) (fun i c hc => by
      have := h (i + 1) c (by rw [List.getElem?_cons_succ]; exact hc)
      rw [show o + (i + 1) * 3 = o + 3 + i * 3 by omega] at this
      exact this)
    refine ⟨⟨b, u⟩ :: L, by rw [List.map_cons, e1], fun x hx => ?_, fun j y hj => ?_⟩
    · rw [List.mem_cons] at hx
      rcases hx with rfl | hx
      · exact h4
      · exact e2 x hx
    · rw [List.flatMap_cons] at hj
      simp only [Nat.zero_mul, Nat.add_zero] at h1 h2 h3
      match j, hj with
      | 0, hj => simp [BV.cells] at hj; subst hj; exact h1
      | 1, hj => simp [BV.cells] at hj; subst hj; exact h2
      | 2, hj => simp [BV.cells] at hj; subst hj; exact h3
      | j + 3, hj =>
        rw [List.getElem?_append_right (by rw [BV.cells_len]; omega), BV.cells_len, Nat.add_sub_cancel] at hj
        rw [show o + (j + 3) = o + 3 + j by omega]
        exact e3 j y hj
set_option maxRecDepth 100000 in
set_option maxHeartbeats 1000000 in
theorem clone_br (n : Nat) (S : Nat → Prop) (a : Nat) (l : List (Br (Pn n))) (v : Value) (w : World) (hS : ∀ g, S g → g < a) (ha : a ≤ w.heap.size) (hs : BrS w S v l) (hl : l.length ≤ 1000) (hne : l ≠ []) :
    Calls Tryz.prog 156 #[v] w fun e w' => ∃ v' L, e = .returned v' ∧ L.map BV.b = l ∧ BrO S a w' w.heap.size v' (L : List (BV n)) ∧ Below w.heap.size w w' := by
  obtain ⟨i0, hi, hz0, hz1, hz2⟩ := info_parts Tryz.infoBr
  have HI := hide (And.intro hi (And.intro hz0 (And.intro hz1 hz2)))
  obtain ⟨ao, cap, rfl, hc1, hc2, hr⟩ := hs
  obtain ⟨g, o, rfl, hg, hcells⟩ := hr hne
  obtain ⟨L, e1, e2, e3⟩ := bvs_of l hcells
  have hLL : L.length = l.length := by rw [← e1, List.length_map]
  have HE1 := hide e1
  have HE2 := hide e2
  have HE3 := hide e3
  have HG : Hid (g < w.heap.size) := hide (Nat.lt_of_lt_of_le (hS g hg) ha)
  have HS := hide hS
  have HAA := hide ha
  obtain ⟨M, hM⟩ : ∃ M, l.length = M := ⟨_, rfl⟩
  rw [hM] at hl hLL hc1 ⊢
  have HLL := hide hLL
  have qT : ∀ (w : World) (a : Option Addr) (n c n' c' : Nat), (binOp .eql 112 (.slice a n c) (.slice none n' c')).run Tryz.prog w = .ok (.bool a.isNone) w := fun w a n c n' c' => Lib.run_eql_slice_nil w _ _ a n c n' c' Tryz.underlying112
  clear hi hz0 hz1 hz2 hr hcells e1 e2 e3 hLL hM
  go_enter Tryz.func156, Tryz.ntmps156
  go_wp2_with (at_builtin; refine wpList_append_own_at _ rfl (.tmp 5) (.tmp 6) 112 rfl w.heap.size 149 i0 (.agg #[.string ByteArray.empty, .int .i64 0, .nilIface]) 3 40 Tryz.underlying112 HI.out.1 HI.out.2.1 HI.out.2.2.1 HI.out.2.2.2 rfl (by decide) (.slice (some ⟨w.heap.size, 0, none⟩) 0 0) 0 [] rfl (owns_empty _ _ _ _ _ (Nat.le_refl _) (mheap_new _ _ _ rfl)) ⟨g, o, none⟩ M cap (L.flatMap BV.cells) rfl (by rw [flat_len BV.cells 3 BV.cells_len, HLL.out]) (fun j u hj => by rw [show Addr.add ⟨g, o, none⟩ j = ⟨g, o + j, none⟩ by (by_cases h : j = 0; (subst h; simp [Addr.add]); simp [Addr.add, h])]; exact ((malloc1 w _).cell (p := ⟨g, o + j, none⟩) HG.out).trans (HE3.out j u hj)) (fun u hu => by obtain ⟨x, hx, hu⟩ := List.mem_flatMap.1 hu; exact bv_one (HE2.out x hx) u hu) (by unfold maxLen; omega) (by omega) (by simp) ?_; intro v4 w4 hown4 hgr4 _ hat4; have HO4 := hide hown4; have HG4 : Hid (Apart (w.alloc (.cells #[] 149)) w4 [w.heap.size]) := hide (Apart.grown hgr4); have HAT := hide hat4; obtain ⟨p4, c4, rfl⟩ := owns_shape hown4; clear hown4 hgr4 hat4)
  go_ret
  have hb : Below w.heap.size w w4 := (malloc1 w _).trans (HG4.out.below (by simp) (by simp))
  refine ⟨_, L, rfl, HE1.out, ⟨?_, fun x hx => ?_, HS.out, HAA.out, Nat.le_trans HAA.out hb.size⟩, hb⟩
  · have := HO4.out
    rw [Nat.zero_add, List.nil_append] at this
    rw [HLL.out]
    simpa using this
  · refine PcAt.carry (fun b hb' => hb.block b (Nat.lt_of_lt_of_le (HS.out b hb') HAA.out)) (fun b hb' => ⟨.inl hb', fun hm => ?_⟩) _ _ _ (HE2.out x hx)
    have := (owns_fresh HO4.out).lo b (by simpa using hm)
    have := HS.out b hb'
    have := HAA.out
    omega
end Go.Proofs.YtmjlblbhakppfaaGreatDoor
namespace Go.Proofs.YtmjlblbhakppfaaGreatDoor
open Go.RowKit
attribute [local go_sem ↓] Go.wp_at_zero Go.wp_at_succ

def Asked (v : Value) (s : ByteArray) (p : Option Addr) (l c : Nat) (ok : Bool) : Prop := ∀ W : World, (Instr.typeAssert v 69 152 true).run Tryz.prog W = .ok (.tuple #[.agg #[.string s, .slice p l c], .bool ok]) W
theorem asked_leaf {x : Option ByteArray} {v : Value} (h : leafAt x v) : Asked v ByteArray.empty none 0 0 false := by
  cases x with
  | none => rw [show v = _ from h]; intro W; kernel_rfl
  | some x => rw [show v = _ from h]; intro W; kernel_rfl
theorem asked_hear (a : ByteArray) (p : Option Addr) (l c : Nat) : Asked (.iface 152 (.agg #[.string a, .slice p l c])) a p l c true := by intro W; kernel_rfl
theorem asked_loop (x : ByteArray) (u : Value) : Asked (.iface 111 (.agg #[.string x, u])) ByteArray.empty none 0 0 false := by intro W; kernel_rfl
theorem asked_msg (a b : ByteArray) (sl : Value) : Asked (.iface 116 (.agg #[.string a, .string b, sl])) ByteArray.empty none 0 0 false := by intro W; kernel_rfl
theorem asked_snd (b : ByteArray) (sl : Value) : Asked (.iface 151 (.agg #[.string b, sl])) ByteArray.empty none 0 0 false := by intro W; kernel_rfl
theorem asked {n : Nat} {w : World} {S : Nat → Prop} : ∀ {p : Pn (n + 1)} {v : Value}, shapeN (n + 1) p → PcAt w S (n + 1) p v → (hearN p = none ∧ Asked v ByteArray.empty none 0 0 false) ∨ ∃ a l sp sc, hearN p = some (a, l) ∧ v = .iface 152 (.agg #[.string a, .slice sp l.length sc]) ∧ BrS w S (.slice sp l.length sc) l := by
  intro p v
  refine Pn.cases (P := fun p => shapeN (n + 1) p → PcAt w S (n + 1) p v → (hearN p = none ∧ Asked v ByteArray.empty none 0 0 false) ∨ ∃ a l sp sc, hearN p = some (a, l) ∧ v = .iface 152 (.agg #[.string a, .slice sp l.length sc]) ∧ BrS w S (.slice sp l.length sc) l) (fun x _ h => .inl ⟨rfl, asked_leaf h⟩) (fun x q _ h => ?_) (fun t l hp h => ?_) p
  · obtain ⟨u, rfl, _⟩ := h
    exact .inl ⟨rfl, asked_loop x u⟩
  · obtain ⟨sl, rfl, h⟩ := h
    have hp' : tkOk t ∧ l ≠ [] ∧ ∀ b ∈ l, shapeN n b.p := hp
    obtain ⟨op, a, b⟩ := t
    rcases hp'.1 with h3 | ⟨h5 | h6, ha⟩
    · dsimp only at h3; subst h3
      exact .inl ⟨rfl, asked_msg a b sl⟩
    · dsimp only at h5 ha; subst h5; subst ha
      exact .inl ⟨rfl, asked_snd b sl⟩
    · dsimp only at h6 ha; subst h6; subst ha
      have h' := h
      obtain ⟨ao, cap, rfl, _⟩ := h'
      exact .inr ⟨b, l, ao, cap, rfl, rfl, h⟩
def IfV (q : Value) : Prop := q = .nilIface ∨ ∃ t a, q = .iface t a
def Merged (n : Nat) (S : Nat → Prop) (w w' : World) (e : Ending) (o : Option (Pn n)) : Prop := ∃ q, e = .returned (.tuple #[q, .bool o.isSome]) ∧ (∀ z, o = some z → PcAt w' (plus S w.heap.size w'.heap.size) n z q) ∧ Below w.heap.size w w' ∧ IfV q
def pickM {α : Type} (r k : Bool) (x : α) (o : Option α) : Option α := if r then some x else if k then o else none
set_option maxRecDepth 100000 in
set_option maxHeartbeats 2000000 in
theorem merge_any (n : Nat) (S : Nat → Prop) (x y : Pn n) (u v : Value) (w : World) (hx : RowBy u w (rowN n x)) (hy : RowBy v w (rowN n y)) (hlx : (rowN n x).length ≤ 1000) (hly : (rowN n y).length ≤ 1000) (hS : ∀ g, S g → g < w.heap.size) (hpx : PcAt w S n x u) (s1 s2 : ByteArray) (p1 p2 : Option Addr) (l1 c1 l2 c2 : Nat) (ok1 ok2 : Bool) (ha1 : Asked u s1 p1 l1 c1 ok1) (ha2 : Asked v s2 p2 l2 c2 ok2)
    (o : Option (Pn n)) (ho : mergeN n x y = pickM (rowEq (rowN n x) (rowN n y)) (ok1 && ok2 && (s1.toList == s2.toList)) x o) (hc : (ok1 && ok2 && (s1.toList == s2.toList)) = true → ∀ W, Below w.heap.size w W → Calls Tryz.prog 153 #[.agg #[.string s1, .slice p1 l1 c1], .agg #[.string s2, .slice p2 l2 c2]] W fun e w' => Merged n S W w' e o) :
    Calls Tryz.prog 144 #[u, v] w fun e w' => Merged n S w w' e (mergeN n x y) := by
  obtain ⟨T1, a1, K1, rfl, hm1, hcf1, hcall1⟩ := hx
  obtain ⟨T2, a2, K2, rfl, hm2, hcf2, hcall2⟩ := hy
  have HPX : Hid (∀ W, Below w.heap.size w W → PcAt W (plus S w.heap.size W.heap.size) n x (.iface T1 a1)) := hide (fun W hW => PcAt.carry (fun g hg => hW.block g (hS g hg)) (fun g hg => .inl hg) n x _ hpx)
  obtain ⟨X, hX⟩ : ∃ X, rowN n x = X := ⟨_, rfl⟩
  obtain ⟨Y, hY⟩ : ∃ Y, rowN n y = Y := ⟨_, rfl⟩
  obtain ⟨r, hr⟩ : ∃ r, rowEq X Y = r := ⟨_, rfl⟩
  rw [hX] at hlx hcall1 ho
  rw [hY] at hly hcall2 ho
  rw [hr] at ho
  have HC1 := hide hcall1
  have HC2 := hide hcall2
  have HLX := hide hlx
  have HLY := hide hly
  have HR := hide hr
  have HO := hide ho
  have HC := hide hc
  have ta1 := ha1
  have ta2 := ha2
  unfold Asked at ta1 ta2
  clear hcall1 hcall2 hlx hly hr ho hc hpx hX hY ha1 ha2
  obtain ⟨q, hq⟩ : ∃ q, (s1.toList == s2.toList) = q := ⟨_, rfl⟩
  rw [hq] at HO HC
  have HW5 : Hid (∀ (w3 : World) (o1 o2 : Obj), Below w.heap.size w w3 → Below w.heap.size w ((w3.alloc o1).alloc o2)) := hide (fun w3 o1 o2 h => h.trans (((malloc1 w3 o1).trans ((malloc1 _ o2).mono (by simp))).mono h.size))
  cases ok1
  all_goals cases ok2
  all_goals cases q
  all_goals
    go_enter Tryz.func144, Tryz.ntmps144
    go_wp2_with (first
      | (go_at_call 153; refine (HC.out rfl _ (HW5.out w3 _ _ HW3.out)).mono ?_; rintro e w5 ⟨q5, rfl, h5a, h5b, hif5⟩; have HIF := hide hif5; clear hif5; have H5A : Hid (∀ z, o = some z → PcAt w5 (plus S w.heap.size w5.heap.size) n z q5) := hide (fun z hz => (h5a z hz).up (fun g hg => hg.elim .inl (fun k => .inr ⟨Nat.le_trans (HW5.out w3 _ _ HW3.out).size k.1, k.2⟩))); have HB5 : Hid (Below w.heap.size w w5) := hide ((HW5.out w3 _ _ HW3.out).trans (h5b.mono (HW5.out w3 _ _ HW3.out).size)); clear h5a h5b)
      | (go_at_call 152; refine (nds_equal X Y _ _ _ ((HO1.out.rd HLX.out).on HB2.out) (HO2.out.rd HLY.out)).mono ?_; rw [HR.out]; rintro e w3 ⟨rfl, hb3⟩; have HW3 : Hid (Below w.heap.size w w3) := hide (HW2.out.trans (hb3.mono HW2.out.size)); clear hb3; cases r)
      | ((fail_if_success (have := HO1)); refine Calls.mono (HC1.out w (Below.refl _ _)) ?_; rintro e w1 ⟨v1, rfl, ho1, hb1⟩; have HO1 := hide ho1; have HW1 := hide hb1; clear ho1 hb1)
      | ((fail_if_success (have := HO2)); refine Calls.mono (HC2.out w1 HW1.out) ?_; rintro e w2 ⟨v2, rfl, ho2, hb2⟩; have HO2 := hide ho2; have HB2 := hide hb2; have HW2 : Hid (Below w.heap.size w w2) := hide (HW1.out.trans (hb2.mono HW1.out.size)); clear ho2 hb2))
    all_goals go_ret2
    all_goals rw [HO.out]
    all_goals first
      | exact ⟨_, rfl, (fun z hz => by have hz' : some x = some z := hz; injection hz' with hz'; subst hz'; exact HPX.out w3 HW3.out), HW3.out, (by first | exact .inl rfl | exact .inr ⟨_, _, rfl⟩)⟩
      | exact ⟨_, rfl, (fun z hz => absurd (show (none : Option (Pn n)) = some z from hz) (by simp)), HW5.out w3 _ _ HW3.out, (by first | exact .inl rfl | exact .inr ⟨_, _, rfl⟩)⟩
      | exact ⟨_, rfl, H5A.out, HB5.out, HIF.out⟩
end Go.Proofs.YtmjlblbhakppfaaGreatDoor
