import Derived.Test.YtmjlblbhakppfaaGreatDoorQP33
import Derived.Test.YtmjlblbhakppfaaGreatDoorQP22
import Derived.Test.YtmjlblbhakppfaaGreatDoorQP15
namespace Go.Proofs.YtmjlblbhakppfaaGreatDoor
open Go.RowKit
set_option linter.unusedSimpArgs false
set_option linter.unusedVariables false
attribute [local go_sem ↓] Go.wp_at_zero Go.wp_at_succ

theorem nd_self (a : Nd) (W : World) : (Op.equalIn 10000 45 (.agg #[.int .i64 a.op, .string a.name, .string a.peer, .int .i64 a.many, .int .i64 a.sort]) (.agg #[.int .i64 a.op, .string a.name, .string a.peer, .int .i64 a.many, .int .i64 a.sort])).run Tryz.prog W = .ok true W := by
  go_simp
set_option maxRecDepth 100000 in
set_option maxHeartbeats 1000000 in
theorem lw_nodes (a : List Nd) (u v : Value) (w : World) (hu : SlAt w w.heap.size u a) (hv : SlAt w w.heap.size v a) :
    Calls Tryz.prog 15 #[u, v] w fun e w' => e = .returned (.bool true) ∧ Below w.heap.size w w' := by
  obtain ⟨ax, cx, rfl, hcx, hmx, hrx⟩ := hu
  obtain ⟨ay, cy, rfl, hcy, hmy, hry⟩ := hv
  have HRX := hide hrx
  have HRY := hide hry
  obtain ⟨L, hA⟩ : ∃ L, a.length = L := ⟨_, rfl⟩
  rw [hA] at hcx hmx hcy ⊢
  have hL4 : L ≤ 4294967296 := hmx.2
  have HL := hide hA
  clear hrx hry hA hmx hmy
  go_enter Tryz.func15, Tryz.ntmps15
  go_wp2_with fail
  go_loopw [5] (fun i wr => ∃ k : Nat, k ≤ L ∧ i = .int .i64 k ∧ Below w.heap.size w wr) (fun i _ => L - (intOf i).toNat)
  case atStart => exact ⟨0, Nat.zero_le _, rfl, Below.refl _ _⟩
  case round =>
    obtain ⟨k, hk, rfl, hbel⟩ := hrel
    have HBEL := hide hbel
    clear hbel
    by_cases hlt : k < L
    · have hkx : k < a.length := by rw [HL.out]; exact hlt
      obtain ⟨g, o, rfl, hgB, hrow⟩ := HRX.out (by intro h; rw [h] at hkx; simp at hkx)
      obtain ⟨g', o', rfl, hgB', hrow'⟩ := HRY.out (by intro h; rw [h] at hkx; simp at hkx)
      have c0 := ((hrow.carry hgB HBEL.out).get k hkx)
      have d0 := ((hrow'.carry hgB' HBEL.out).get k hkx)
      obtain ⟨x, hx⟩ : ∃ x, a[k] = x := ⟨_, rfl⟩
      rw [hx] at c0 d0
      obtain ⟨c0, c1, c2, c3, c4⟩ := c0
      obtain ⟨d0, d1, d2, d3, d4⟩ := d0
      have heq := nd_self x
      clear hrow hrow' hx
      go_wp2_with fail
      go_region
      go_wp2_with fail
      all_goals
        go_roundw
        case rel => exact ⟨k + 1, hlt, by go_num, by first | exact HBEL.out | exact HBEL.out.drew⟩
        case measure => simp [intOf]; omega
    · obtain rfl : L = k := by omega
      go_wp2_with fail
      go_ret
      exact ⟨rfl, HBEL.out⟩
structure PlAt (w w' : World) (v : Value) (l : List Nd) : Prop where
  own : NdOwn w' w.heap.size v l
  ok : ∀ n ∈ l, DrNd n
  len : l.length ≤ 14
  bel : Below w.heap.size w w'
theorem md_pl {w w1 w2 : World} {ao : Option Addr} {len cap : Nat} {v : Value} {l : List Nd} (hb : Below w.heap.size w w1) (h : MdAt w1 w2 w.heap.size ao len cap v l) (hl : l.length ≤ 14) : PlAt w w2 v l :=
  ⟨owns_down h.own hb.size, h.ok, hl, hb.trans (h.ap.below hb.size (by simp))⟩
theorem PlAt.sl {w w' : World} {v : Value} {l : List Nd} (h : PlAt w w' v l) : SlAt w' w'.heap.size v l := own_slat h.own (by have := h.len; omega)
theorem DrNd.fits {n : Nd} (h : DrNd n) : n.fit := ⟨Nat.le_trans h.n1 (by omega), Nat.le_trans h.n2 (by omega)⟩
theorem text_le (part : Bool) (ns : List Nd) : (textV part ns).size ≤ 8000 := by
  unfold textV
  split
  · rename_i h
    exact Nat.le_trans (text_small h) (by omega)
  · exact Nat.zero_le _
end Go.Proofs.YtmjlblbhakppfaaGreatDoor
namespace Go.Proofs.YtmjlblbhakppfaaGreatDoor
open Go.RowKit
attribute [local go_sem ↓] Go.wp_at_zero Go.wp_at_succ

section
variable {n : Nat}
def BV.six (x : BV n) : List Value := [.int .i64 4, .string x.b.l, .string ByteArray.empty, .int .i64 0, .int .i64 x.b.s, x.u]
theorem BV.six_len (x : BV n) : x.six.length = 6 := rfl
theorem six_one {w : World} {S : Nat → Prop} {x : BV n} {r : List Nd} (h : RdW w S x.u r) : ∀ u ∈ x.six, u.oneCell' = true := by
  intro u hu
  obtain ⟨ao, cap, e, -⟩ := h
  simp [BV.six] at hu
  rcases hu with rfl | rfl | rfl | rfl | rfl | rfl
  · rfl
  · rfl
  · rfl
  · rfl
  · rfl
  · rw [e]; rfl
structure CsO (S : Nat → Prop) (a : Nat) (w : World) (base : Nat) (v : Value) (l : List (BV n)) : Prop where
  own : w.ownsRow base 178 6 v l.length (l.flatMap BV.six)
  rds : ∀ x ∈ l, RdW w (but S a w.heap.size v) x.u (rowN n x.b.p)
  low : ∀ g, S g → g < a
  ab : a ≤ base
  siz : a ≤ w.heap.size
variable {S : Nat → Prop} {a : Nat}
theorem CsO.keep {w w' : World} {base : Nat} {v : Value} {l : List (BV n)} (h : CsO S a w base v l) (hb : Below w.heap.size w w') : CsO S a w' base v l :=
  ⟨owns_below h.own hb, fun x hx => (h.rds x hx).carry (fun g hg => hb.block g (plus_lt h.low h.siz hg.1)) (fun _ hg => ⟨plus_up hb.size hg.1, hg.2⟩), h.low, h.ab, Nat.le_trans h.siz hb.size⟩
theorem CsO.get {w : World} {base g c : Nat} {l : List (BV n)} (h : CsO S a w base (.slice (some ⟨g, 0, none⟩) l.length c) l) {i : Nat} {x : BV n} (hi : l[i]? = some x) (j : Nat) (hj : j < 6) (y : Value) (hy : x.six[j]? = some y) : w.cell? ⟨g, i * 6 + j, none⟩ = some y := by
  obtain ⟨hlt, hxe⟩ := List.getElem?_eq_some_iff.1 hi
  exact owns_cell h.own rfl (i * 6 + j) y ((flat_get BV.six 6 BV.six_len l i hlt j hj).trans (by rw [hxe]; exact hy))
theorem cso_push {w w2 : World} {base : Nat} {v v' : Value} {l : List (BV n)} (h : CsO S a w base v l) (x : BV n) (hx : RdW w (but S a w.heap.size v) x.u (rowN n x.b.p)) (o : Obj) (hown : w2.ownsRow base 178 6 v' (l.length + 1) (l.flatMap BV.six ++ x.six)) (hg : (w.alloc o).grownBy w2 v.ownBlock) (hat : v'.ownBlock = v.ownBlock ∨ v'.ownBlock = some (w.alloc o).heap.size) : CsO S a w2 base v' (l ++ [x]) ∧ Apart w w2 (vblocks v) ∧ ∀ b ∈ vblocks v', b ∈ vblocks v ∨ w.heap.size ≤ b := by
  obtain ⟨p, c, hv⟩ := owns_shape h.own
  obtain ⟨p', c', hv'⟩ := owns_shape hown
  have hA : Apart w w2 (vblocks v) := by
    rw [hv] at hg ⊢
    have := (below_apart (malloc1 w o)).trans (grownBy_apart hg)
    rwa [List.nil_append] at this
  have key : ∀ {r : List Nd} {u : Value}, RdW w (but S a w.heap.size v) u r → RdW w2 (but S a w2.heap.size v') u r := fun hq => hq.carry (fun g hg => hA.block g (plus_lt h.low h.siz hg.1) hg.2) (fun g hg => ⟨plus_up hA.size hg.1, fun hm => by
    have hm' := (own_blocks hv').2 hm
    rcases hat with e | e
    · rw [e] at hm'
      exact hg.2 ((own_blocks hv).1 hm')
    · rw [e] at hm'
      have := plus_lt h.low h.siz hg.1
      simp at hm'
      omega⟩)
  refine ⟨⟨?_, fun y hy => ?_, h.low, h.ab, Nat.le_trans h.siz hA.size⟩, hA, fun b hm => ?_⟩
  · rw [List.length_append, List.length_singleton, List.flatMap_append]
    simpa using hown
  · rw [List.mem_append] at hy
    rcases hy with hy | hy
    · exact key (h.rds y hy)
    · simp at hy
      subst hy
      exact key hx
  · have hm' := (own_blocks hv').2 hm
    rcases hat with e | e
    · rw [e] at hm'
      exact .inl ((own_blocks hv).1 hm')
    · rw [e] at hm'
      simp at hm'
      exact .inr (by omega)
theorem six_set : ∀ (l : List (BV n)) (i : Nat) (x : BV n) (u : Value), l[i]? = some x → (l.flatMap BV.six).set (i * 6 + 5) u = (l.set i ⟨x.b, u⟩).flatMap BV.six
  | [], i, x, u, h => by simp at h
  | a :: l, 0, x, u, h => by
    simp at h
    subst h
    rfl
  | a :: l, i + 1, x, u, h => by
    rw [List.getElem?_cons_succ] at h
    rw [List.set_cons_succ, List.flatMap_cons, List.flatMap_cons, ← six_set l i x u h]
    have e : (i + 1) * 6 + 5 = a.six.length + (i * 6 + 5) := by rw [BV.six_len]; omega
    rw [e, List.set_append_right _ _ (by omega), Nat.add_sub_cancel_left]
theorem cso_set {w : World} {base g cap : Nat} {l : List (BV n)} (h : CsO S a w base (.slice (some ⟨g, 0, none⟩) l.length cap) l) {i : Nat} {x : BV n} (hi : l[i]? = some x) (q : Pn n) (u : Value) (hu : RdW w (but S a w.heap.size (.slice (some ⟨g, 0, none⟩) l.length cap)) u (rowN n q)) : CsO S a (w.setCell ⟨g, i * 6 + 5, none⟩ u) base (.slice (some ⟨g, 0, none⟩) l.length cap) (l.set i ⟨⟨x.b.l, x.b.s, q⟩, u⟩) := by
  have hA := setCell_apart w g (i * 6 + 5) u
  have key : ∀ {r : List Nd} {u' : Value}, RdW w (but S a w.heap.size (.slice (some ⟨g, 0, none⟩) l.length cap)) u' r → RdW (w.setCell ⟨g, i * 6 + 5, none⟩ u) (but S a (w.setCell ⟨g, i * 6 + 5, none⟩ u).heap.size (.slice (some ⟨g, 0, none⟩) l.length cap)) u' r := fun hq => hq.carry (fun b hb => hA.block b (plus_lt h.low h.siz hb.1) (fun hm => hb.2 (by simpa [vblocks, cellBlocks] using hm))) (fun b hb => ⟨plus_up hA.size hb.1, hb.2⟩)
  refine ⟨?_, fun y hy => ?_, h.low, h.ab, Nat.le_trans h.siz hA.size⟩
  · have := (World.ownsRow.stored h.own (i * 6 + 5) u).1
    rw [six_set l i x u hi] at this
    rw [List.length_set]
    have e : (l.set i ⟨x.b, u⟩).flatMap BV.six = (l.set i ⟨⟨x.b.l, x.b.s, q⟩, u⟩).flatMap BV.six := by
      clear hi this hu h hA key
      induction l generalizing i with
      | nil => rfl
      | cons a l ih =>
        cases i with
        | zero => rfl
        | succ i => rw [List.set_cons_succ, List.set_cons_succ, List.flatMap_cons, List.flatMap_cons, ih]
    rw [← e]
    exact this
  · rcases mem_setP hy with hy | hy
    · exact key (h.rds y hy)
    · subst hy
      exact key hu
end
theorem row_app {w : World} {g : Nat} : ∀ {l r : List Nd} {o : Nat}, RowAt w g o (l ++ r) → RowAt w g o l
  | [], _, _, _ => trivial
  | _ :: _, _, _, h => ⟨h.1, row_app h.2⟩
theorem Tryz.infoCs : (Tryz.prog.info? 178).map (fun i => (i.zero, i.size, i.bytes)) = some (some (.agg #[.int .i64 0, .string ByteArray.empty, .string ByteArray.empty, .int .i64 0, .int .i64 0, .slice none 0 0]), 6, 80) := by kernel_rfl
structure RoundS (n : Nat) (S : Nat → Prop) (w wr : World) (all : List Nd) (cs : List (Br (Pn n))) (cv : Value) (k p : Nat) (acc : List (BV n)) : Prop where
  done : acc.map BV.b = cs.take k
  rest : all.drop p = brsBy (rowN n) (cs.drop k)
  own : wr.ownsRow w.heap.size 178 6 cv acc.length (acc.flatMap BV.six)
  rds : ∀ x ∈ acc, RdW wr S x.u (rowN n x.b.p)
  bel : Below w.heap.size w wr
  le : p ≤ all.length
set_option maxRecDepth 100000 in
set_option maxHeartbeats 2000000 in
theorem s_split (n : Nat) (t : Tk) (cs : List (Br (Pn n))) (hsh : ∀ b ∈ cs, shapeN n b.p) (all : List Nd) (hall : all = rowN (n + 1) (.talk t cs)) (hl : all.length ≤ 1000) (v : Value) (w : World) (S : Nat → Prop) (hS : ∀ g, S g → g < w.heap.size) (hv : RdW w S v all) :
    Calls Tryz.prog 146 #[v] w fun e w' => ∃ (v' : Value) (L : List (BV n)), e = .returned v' ∧ L.map BV.b = cs ∧ w'.ownsRow w.heap.size 178 6 v' L.length (L.flatMap BV.six) ∧ (∀ x ∈ L, RdW w' S x.u (rowN n x.b.p)) ∧ Below w.heap.size w w' := by
  obtain ⟨i0, hi, hz0, hz1, hz2⟩ := info_parts Tryz.infoCs
  have HI := hide (And.intro hi (And.intro hz0 (And.intro hz1 hz2)))
  rw [row_talk] at hall
  have hne : all ≠ [] := by rw [hall]; simp
  have h0 : all.drop 0 = ⟨t.op, t.a, t.b, (cs.length : Int), 0⟩ :: brsBy (rowN n) cs ++ [] := by rw [List.append_nil, List.drop_zero]; exact hall
  obtain ⟨hp0, hn0, h1⟩ := drop_next h0
  have HB : Hid (∀ (k p : Nat) (b : Br (Pn n)), cs[k]? = some b → all.drop p = brsBy (rowN n) (cs.drop k) → all[p]? = some ⟨4, b.l, noT, 0, b.s⟩ ∧ all.drop (p + 1) = rowN n b.p ++ brsBy (rowN n) (cs.drop (k + 1)) ∧ all.drop (p + 1 + (rowN n b.p).length) = brsBy (rowN n) (cs.drop (k + 1)) ∧ p + 1 + (rowN n b.p).length ≤ all.length ∧ ∀ W, Below w.heap.size w W → Calls Tryz.prog 91 #[v, .int .i64 ((p : Int) + 1)] W fun e w' => e = .returned (.int .i64 ((p + 1 + (rowN n b.p).length : Nat) : Int)) ∧ Below W.heap.size W w') := hide (fun k p b hb hd => by
    have hlt := (List.getElem?_eq_some_iff.1 hb).1
    have hbe : cs[k] = b := (List.getElem?_eq_some_iff.1 hb).2
    rw [List.drop_eq_getElem_cons hlt, hbe, brs_cons] at hd
    obtain ⟨hp1, hn1, h2⟩ := drop_next (r := rowN n b.p ++ brsBy (rowN n) (cs.drop (k + 1))) (post := []) (by rw [hd, List.append_nil])
    rw [List.append_nil] at h2
    have hne2 : rowN n b.p ≠ [] := fun e => by have := row_pos n b.p; rw [e] at this; simp at this
    exact ⟨by rw [List.getElem?_eq_getElem hp1, hn1], h2, drop_more h2, by have := drop_len h2 hne2; omega, fun W hW => behind_calls n b.p all _ (p + 1) v W S (fun g hg => Nat.lt_of_lt_of_le (hS g hg) hW.size) (hsh b (List.mem_of_getElem? hb)) hl h2 (hv.on hS hW)⟩)
  have HV := hide hv
  obtain ⟨ao, cap, rfl, hc, hm, -, hrow⟩ := hv
  obtain ⟨g, o, rfl, hg, hrow⟩ := hrow hne
  have hgw := hS g hg
  have hn1 := hrow.get 0 hp0
  rw [hn0] at hn1
  obtain ⟨-, -, -, c3, -⟩ := hn1
  dsimp only at c3
  rw [Nat.zero_mul, Nat.add_zero] at c3
  have hcl : cs.length ≤ 1000 := by have := brs_count (rowN n) cs; have := congrArg List.length hall; rw [List.length_cons] at this; omega
  have HROW := hide hrow
  have HG := hide hg
  have HSS := hide hS
  have H1 : Hid (all.drop 1 = brsBy (rowN n) cs) := hide (by rw [List.append_nil, Nat.zero_add] at h1; exact h1)
  obtain ⟨K, hK⟩ : ∃ K, cs.length = K := ⟨_, rfl⟩
  rw [hK] at c3 hcl
  have HK := hide hK
  obtain ⟨M, hM⟩ : ∃ M, all.length = M := ⟨_, rfl⟩
  rw [hM] at hp0 hl hc HB ⊢
  have HM := hide hM
  clear hi hz0 hz1 hz2 hall hne h0 h1 hn0 hrow hK hM hsh hg
  go_enter Tryz.func146, Tryz.ntmps146
  go_wp2_with fail
  go_loopw [3, 4, 5] (fun cv av kv wr => ∃ (k p : Nat) (acc : List (BV n)), k ≤ K ∧ kv = .int .i64 k ∧ av = .int .i64 p ∧ RoundS n S w wr all cs cv k p acc) (fun _ _ kv _ => K - (intOf kv).toNat)
  case atStart => exact ⟨0, 1, [], Nat.zero_le _, rfl, rfl, ⟨rfl, H1.out, owns_empty _ _ _ _ _ (Nat.le_refl _) (mheap_new _ _ _ rfl), (fun x hx => by cases hx), malloc1 _ _, by rw [HM.out]; exact hp0⟩⟩
  case round =>
    obtain ⟨k, p, acc, hk, rfl, rfl, hR⟩ := hrel
    have HR := hide hR
    have hzw := hR.bel.size
    have hple := hR.le
    rw [HM.out] at hple
    have halen : acc.length = k := by have := congrArg List.length hR.done; rw [List.length_map, List.length_take, HK.out] at this; omega
    obtain ⟨cp, cc, hcv⟩ := owns_shape hR.own
    rw [halen] at hcv
    subst hcv
    have HAL := hide halen
    have d3 := (hR.bel.cell (p := ⟨g, o + 3, none⟩) hgw).trans c3
    clear halen
    by_cases hlt : k < K
    · obtain ⟨d, hdk⟩ : ∃ d, cs[k]? = some d := ⟨cs[k]'(by rw [HK.out]; exact hlt), List.getElem?_eq_getElem _⟩
      obtain ⟨hgp, hd1, hd2, hd3, hcall⟩ := HB.out k p d hdk hR.rest
      obtain ⟨hpl, hnp⟩ := List.getElem?_eq_some_iff.1 hgp
      have HC := hide hcall
      have HD2 := hide hd2
      have hnd := (HROW.out.get p hpl).carry hgw hR.bel
      rw [hnp] at hnd
      have hrp := row_pos n d.p
      have HRD : Hid (∀ W, Below w.heap.size w W → RdW W S (.slice (some ⟨g, o + (p + 1) * 5, none⟩) (rowN n d.p).length (cap - (p + 1))) (rowN n d.p)) := hide (fun W hW => by
        refine ⟨_, _, rfl, by omega, by omega, by omega, fun _ => ⟨g, _, rfl, HG.out, ?_⟩⟩
        have := HROW.out.drop (p + 1)
        rw [hd1] at this
        exact (row_app this).block (hW.block g hgw))
      obtain ⟨dl, ds, dp⟩ := d
      obtain ⟨c0, c1, c2, c3', c4⟩ := hnd
      dsimp only at c0 c1 c2 c3' c4 hrp hd3
      have HTK : Hid (acc.map BV.b ++ [⟨dl, ds, dp⟩] = cs.take (k + 1)) := hide (by rw [hR.done, List.take_add_one, hdk]; rfl)
      obtain ⟨N, hN⟩ : ∃ N, (rowN n dp).length = N := ⟨_, rfl⟩
      obtain ⟨T, hT⟩ : ∃ T, p + 1 + N = T := ⟨_, rfl⟩
      dsimp only at HRD HC HD2
      rw [hN] at HRD HC HD2 hrp hd3
      rw [hT] at HC HD2 hd3
      have hcap : p + 1 < cap := by omega
      have hpM : p < M := by omega
      clear hcall hdk hpl hnp hd1 hd2 hR hgp
      go_wp2_with (go_at_call 91; refine (HC.out _ HR.out.bel).mono ?_; rintro e w2 ⟨rfl, hb2⟩; have HB2 := hide hb2; have hgr : g < wr.heap.size := Nat.lt_of_lt_of_le hgw hzw; have x0 := (hb2.cell (p := ⟨g, o + p * 5, none⟩) hgr).trans c0; have x1 := (hb2.cell (p := ⟨g, o + p * 5 + 1, none⟩) hgr).trans c1; have x2 := (hb2.cell (p := ⟨g, o + p * 5 + 2, none⟩) hgr).trans c2; have x3 := (hb2.cell (p := ⟨g, o + p * 5 + 3, none⟩) hgr).trans c3'; have x4 := (hb2.cell (p := ⟨g, o + p * 5 + 4, none⟩) hgr).trans c4; clear hb2)
      have HO2 : Hid (w2.drew.ownsRow w.heap.size 178 6 (.slice cp k cc) k (acc.flatMap BV.six)) := hide (by
        have := owns_below HR.out.own (HB2.out.trans ((Below.refl _ _).drew.mono HB2.out.size))
        rw [HAL.out] at this
        exact this)
      have hTN : T - (p + 1) = N := by omega
      have hwr : IntKind.i64.wrap ((p : Int) + 1) = (p : Int) + 1 := by rw [IntKind.wrap_i64]; omega
      have hw0 : 0 ≤ (p : Int) + 1 := by omega
      have hw1 : (p : Int) + 1 ≤ T := by omega
      have hwc : ¬ cap = p + 1 := by omega
      have hpT : p + 1 ≤ T := by omega
      have hTc : T ≤ cap := by omega
      go_region_law (refine stepM_at rfl (.tmp 20) (.tmp 31) 173 rfl w.heap.size 178 i0 (.agg #[.int .i64 0, .string ByteArray.empty, .string ByteArray.empty, .int .i64 0, .int .i64 0, .slice none 0 0]) 6 80 Tryz.underlying173 HI.out.1 HI.out.2.1 HI.out.2.2.1 HI.out.2.2.2 rfl (by decide) (.slice cp k cc) k (acc.flatMap BV.six) (by simp [Act.eval]) (owns_below HO2.out (malloc1 _ _)) ⟨w2.heap.size, 0, none⟩ 1 1 (BV.six (n := n) ⟨⟨dl, ds, dp⟩, .slice (some ⟨g, o + (p + 1) * 5, none⟩) N (cap - (p + 1))⟩) (by simp [Act.eval]) rfl (fun j u hj => new_rowq _ _ _ _ (by simp) j u hj) (six_one (HRD.out w (Below.refl _ _))) (by unfold maxLen; omega) (by omega) (by have := HB2.out.size; simp; omega) ?_; intro v4 w4 hown4 hgr4 hat4; have HO4 := hide hown4; have HA4 : Hid (Apart w2.drew w4 (vblocks (.slice cp k cc))) := hide (by have := (below_apart (malloc1 w2.drew _)).trans (grownBy_apart hgr4); rwa [List.nil_append] at this); obtain ⟨p4, c4', rfl⟩ := owns_shape hown4; clear hown4 hgr4 hat4)
      all_goals
        go_wp2_with fail
        go_roundw
        case rel =>
          have hlo := (owns_fresh HO2.out).lo
          have hb4 : Below w.heap.size w2.drew w4 := HA4.out.below (by have := HB2.out.size; simp; omega) hlo
          have hbw : Below w.heap.size w w2.drew := (HR.out.bel.trans (HB2.out.mono hzw)).drew
          have hb5 : Below w.heap.size w w4 := hbw.trans hb4
          refine ⟨k + 1, T, acc ++ [⟨⟨dl, ds, dp⟩, .slice (some ⟨g, o + (p + 1) * 5, none⟩) N (cap - (p + 1))⟩], hlt, by go_num, rfl, ⟨by rw [List.map_append]; exact HTK.out, HD2.out, ?_, fun x hx => ?_, hb5, by rw [HM.out]; exact hd3⟩⟩
          · rw [List.length_append, List.length_singleton, HAL.out, List.flatMap_append]
            simpa using HO4.out
          · rw [List.mem_append] at hx
            rcases hx with hx | hx
            · exact (HR.out.rds x hx).carry (fun b hb => (hb5.block b (HSS.out b hb)).trans (HR.out.bel.block b (HSS.out b hb)).symm) (fun _ h => h)
            · simp at hx
              subst hx
              exact HRD.out w4 hb5
        case measure => simp [intOf]; omega
    · obtain rfl : k = K := by omega
      have HE : Hid (acc.map BV.b = cs) := hide (by rw [hR.done]; exact List.take_of_length_le (by rw [HK.out]; exact Nat.le_refl _))
      clear hR
      go_wp2_with fail
      go_ret
      exact ⟨_, acc, rfl, HE.out, by rw [HAL.out]; have := HR.out.own; rw [HAL.out] at this; exact this, HR.out.rds, HR.out.bel⟩
end Go.Proofs.YtmjlblbhakppfaaGreatDoor
