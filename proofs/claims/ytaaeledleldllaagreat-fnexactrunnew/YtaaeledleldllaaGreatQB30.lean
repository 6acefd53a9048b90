import Derived.Test.YtaaeledleldllaaGreatQB29
namespace Go.Proofs.YtaaeledleldllaaGreat
open Go.RowKit
attribute [local go_sem ↓] Go.wp_at_zero Go.wp_at_succ

section
variable {n : Nat}
def BV.six (x : BV n) : List Value := [.int .i64 4, .string x.b.l, .string ByteArray.empty, .int .i64 0, .int .i64 x.b.s, x.u]
theorem BV.six_len (x : BV n) : x.six.length = 6 := rfl
theorem six_one {w : World} {S : Nat → Prop} {x : BV n} {r : List Nd} (h : RdS w S x.u r) : ∀ u ∈ x.six, u.oneCell' = true := by
  intro u hu
  obtain ⟨ao, cap, e, -⟩ := h
  simp [BV.six] at hu
  rcases hu with rfl | rfl | rfl | rfl | rfl | rfl
  · rfl
  · rfl
  · rfl
  · rfl
  · rfl
  · rw [e]; rfl
structure CsO (S : Nat → Prop) (a : Nat) (w : World) (base : Nat) (v : Value) (l : List (BV n)) : Prop where
  own : w.ownsRow base 250 6 v l.length (l.flatMap BV.six)
  rds : ∀ x ∈ l, RdS w (but S a w.heap.size v) x.u (rowN n x.b.p)
  low : ∀ g, S g → g < a
  ab : a ≤ base
  siz : a ≤ w.heap.size
variable {S : Nat → Prop} {a : Nat}
theorem CsO.keep {w w' : World} {base : Nat} {v : Value} {l : List (BV n)} (h : CsO S a w base v l) (hb : Below w.heap.size w w') : CsO S a w' base v l :=
  ⟨owns_below h.own hb, fun x hx => (h.rds x hx).carry (fun g hg => hb.block g (plus_lt h.low h.siz hg.1)) (fun _ hg => ⟨plus_up hb.size hg.1, hg.2⟩), h.low, h.ab, Nat.le_trans h.siz hb.size⟩
theorem CsO.get {w : World} {base g c : Nat} {l : List (BV n)} (h : CsO S a w base (.slice (some ⟨g, 0, none⟩) l.length c) l) {i : Nat} {x : BV n} (hi : l[i]? = some x) (j : Nat) (hj : j < 6) (y : Value) (hy : x.six[j]? = some y) : w.cell? ⟨g, i * 6 + j, none⟩ = some y := by
  obtain ⟨hlt, hxe⟩ := List.getElem?_eq_some_iff.1 hi
  exact owns_cell h.own rfl (i * 6 + j) y ((flat_get BV.six 6 BV.six_len l i hlt j hj).trans (by rw [hxe]; exact hy))
theorem cso_push {w w2 : World} {base : Nat} {v v' : Value} {l : List (BV n)} (h : CsO S a w base v l) (x : BV n) (hx : RdS w (but S a w.heap.size v) x.u (rowN n x.b.p)) (o : Obj) (hown : w2.ownsRow base 250 6 v' (l.length + 1) (l.flatMap BV.six ++ x.six)) (hg : (w.alloc o).grownBy w2 v.ownBlock) (hat : v'.ownBlock = v.ownBlock ∨ v'.ownBlock = some (w.alloc o).heap.size) : CsO S a w2 base v' (l ++ [x]) ∧ Apart w w2 (vblocks v) ∧ ∀ b ∈ vblocks v', b ∈ vblocks v ∨ w.heap.size ≤ b := by
  obtain ⟨p, c, hv⟩ := owns_shape h.own
  obtain ⟨p', c', hv'⟩ := owns_shape hown
  have hA : Apart w w2 (vblocks v) := by
    rw [hv] at hg ⊢
    have := (below_apart (malloc1 w o)).trans (grownBy_apart hg)
    rwa [List.nil_append] at this
  have key : ∀ {r : List Nd} {u : Value}, RdS w (but S a w.heap.size v) u r → RdS w2 (but S a w2.heap.size v') u r := fun hq => hq.carry (fun g hg => hA.block g (plus_lt h.low h.siz hg.1) hg.2) (fun g hg => ⟨plus_up hA.size hg.1, fun hm => by
    have hm' := (own_blocks hv').2 hm
    rcases hat with e | e
    · rw [e] at hm'
      exact hg.2 ((own_blocks hv).1 hm')
    · rw [e] at hm'
      have := plus_lt h.low h.siz hg.1
      simp at hm'
      omega⟩)
  refine ⟨⟨?_, fun y hy => ?_, h.low, h.ab, Nat.le_trans h.siz hA.size⟩, hA, fun b hm => ?_⟩
  · rw [List.length_append, List.length_singleton, List.flatMap_append]
    simpa using hown
  · rw [List.mem_append] at hy
    rcases hy with hy | hy
    · exact key (h.rds y hy)
    · simp at hy
      subst hy
      exact key hx
  · have hm' := (own_blocks hv').2 hm
    rcases hat with e | e
    · rw [e] at hm'
      exact .inl ((own_blocks hv).1 hm')
    · rw [e] at hm'
      simp at hm'
      exact .inr (by omega)
theorem six_set : ∀ (l : List (BV n)) (i : Nat) (x : BV n) (u : Value), l[i]? = some x → (l.flatMap BV.six).set (i * 6 + 5) u = (l.set i ⟨x.b, u⟩).flatMap BV.six
  | [], i, x, u, h => by simp at h
  | a :: l, 0, x, u, h => by
    simp at h
    subst h
    rfl
  | a :: l, i + 1, x, u, h => by
    rw [List.getElem?_cons_succ] at h
    rw [List.set_cons_succ, List.flatMap_cons, List.flatMap_cons, ← six_set l i x u h]
    have e : (i + 1) * 6 + 5 = a.six.length + (i * 6 + 5) := by rw [BV.six_len]; omega
    rw [e, List.set_append_right _ _ (by omega), Nat.add_sub_cancel_left]
theorem cso_set {w : World} {base g cap : Nat} {l : List (BV n)} (h : CsO S a w base (.slice (some ⟨g, 0, none⟩) l.length cap) l) {i : Nat} {x : BV n} (hi : l[i]? = some x) (q : Pn n) (u : Value) (hu : RdS w (but S a w.heap.size (.slice (some ⟨g, 0, none⟩) l.length cap)) u (rowN n q)) : CsO S a (w.setCell ⟨g, i * 6 + 5, none⟩ u) base (.slice (some ⟨g, 0, none⟩) l.length cap) (l.set i ⟨⟨x.b.l, x.b.s, q⟩, u⟩) := by
  have hA := setCell_apart w g (i * 6 + 5) u
  have key : ∀ {r : List Nd} {u' : Value}, RdS w (but S a w.heap.size (.slice (some ⟨g, 0, none⟩) l.length cap)) u' r → RdS (w.setCell ⟨g, i * 6 + 5, none⟩ u) (but S a (w.setCell ⟨g, i * 6 + 5, none⟩ u).heap.size (.slice (some ⟨g, 0, none⟩) l.length cap)) u' r := fun hq => hq.carry (fun b hb => hA.block b (plus_lt h.low h.siz hb.1) (fun hm => hb.2 (by simpa [vblocks, cellBlocks] using hm))) (fun b hb => ⟨plus_up hA.size hb.1, hb.2⟩)
  refine ⟨?_, fun y hy => ?_, h.low, h.ab, Nat.le_trans h.siz hA.size⟩
  · have := (World.ownsRow.stored h.own (i * 6 + 5) u).1
    rw [six_set l i x u hi] at this
    rw [List.length_set]
    have e : (l.set i ⟨x.b, u⟩).flatMap BV.six = (l.set i ⟨⟨x.b.l, x.b.s, q⟩, u⟩).flatMap BV.six := by
      clear hi this hu h hA key
      induction l generalizing i with
      | nil => rfl
      | cons a l ih =>
        cases i with
        | zero => rfl
        | succ i => rw [List.set_cons_succ, List.set_cons_succ, List.flatMap_cons, List.flatMap_cons, ih]
    rw [← e]
    exact this
  · rcases mem_set hy with hy | hy
    · exact key (h.rds y hy)
    · subst hy
      exact key hu
end
theorem row_app {w : World} {g : Nat} : ∀ {l r : List Nd} {o : Nat}, RowAt w g o (l ++ r) → RowAt w g o l
  | [], _, _, _ => trivial
  | _ :: _, _, _, h => ⟨h.1, row_app h.2⟩
theorem Tryz.infoCs : (Tryz.prog.info? 250).map (fun i => (i.zero, i.size, i.bytes)) = some (some (.agg #[.int .i64 0, .string ByteArray.empty, .string ByteArray.empty, .int .i64 0, .int .i64 0, .slice none 0 0]), 6, 80) := by kernel_rfl
structure RoundS (n : Nat) (S : Nat → Prop) (w wr : World) (all : List Nd) (cs : List (Br (Pn n))) (cv : Value) (k p : Nat) (acc : List (BV n)) : Prop where
  done : acc.map BV.b = cs.take k
  rest : all.drop p = brsBy (rowN n) (cs.drop k)
  own : wr.ownsRow w.heap.size 250 6 cv acc.length (acc.flatMap BV.six)
  rds : ∀ x ∈ acc, RdS wr S x.u (rowN n x.b.p)
  bel : Below w.heap.size w wr
  le : p ≤ all.length
set_option maxRecDepth 100000 in
set_option maxHeartbeats 2000000 in
theorem s_split (n : Nat) (t : Tk) (cs : List (Br (Pn n))) (hsh : ∀ b ∈ cs, shapeN n b.p) (all : List Nd) (hall : all = rowN (n + 1) (.talk t cs)) (hl : all.length ≤ 1000) (v : Value) (w : World) (S : Nat → Prop) (hS : ∀ g, S g → g < w.heap.size) (hv : RdS w S v all) :
    Calls Tryz.prog 189 #[v] w fun e w' => ∃ (v' : Value) (L : List (BV n)), e = .returned v' ∧ L.map BV.b = cs ∧ w'.ownsRow w.heap.size 250 6 v' L.length (L.flatMap BV.six) ∧ (∀ x ∈ L, RdS w' S x.u (rowN n x.b.p)) ∧ Below w.heap.size w w' := by
  obtain ⟨i0, hi, hz0, hz1, hz2⟩ := info_parts Tryz.infoCs
  have HI := hide (And.intro hi (And.intro hz0 (And.intro hz1 hz2)))
  rw [row_talk] at hall
  have hne : all ≠ [] := by rw [hall]; simp
  have h0 : all.drop 0 = ⟨t.op, t.a, t.b, (cs.length : Int), 0⟩ :: brsBy (rowN n) cs ++ [] := by rw [List.append_nil, List.drop_zero]; exact hall
  obtain ⟨hp0, hn0, h1⟩ := drop_next h0
  have HB : Hid (∀ (k p : Nat) (b : Br (Pn n)), cs[k]? = some b → all.drop p = brsBy (rowN n) (cs.drop k) → all[p]? = some ⟨4, b.l, noT, 0, b.s⟩ ∧ all.drop (p + 1) = rowN n b.p ++ brsBy (rowN n) (cs.drop (k + 1)) ∧ all.drop (p + 1 + (rowN n b.p).length) = brsBy (rowN n) (cs.drop (k + 1)) ∧ p + 1 + (rowN n b.p).length ≤ all.length ∧ ∀ W, Below w.heap.size w W → Calls Tryz.prog 117 #[v, .int .i64 ((p : Int) + 1)] W fun e w' => e = .returned (.int .i64 ((p + 1 + (rowN n b.p).length : Nat) : Int)) ∧ Below W.heap.size W w') := hide (fun k p b hb hd => by
    have hlt := (List.getElem?_eq_some_iff.1 hb).1
    have hbe : cs[k] = b := (List.getElem?_eq_some_iff.1 hb).2
    rw [List.drop_eq_getElem_cons hlt, hbe, brs_cons] at hd
    obtain ⟨hp1, hn1, h2⟩ := drop_next (r := rowN n b.p ++ brsBy (rowN n) (cs.drop (k + 1))) (post := []) (by rw [hd, List.append_nil])
    rw [List.append_nil] at h2
    have hne2 : rowN n b.p ≠ [] := fun e => by have := row_pos n b.p; rw [e] at this; simp at this
    exact ⟨by rw [List.getElem?_eq_getElem hp1, hn1], h2, drop_more h2, by have := drop_len h2 hne2; omega, fun W hW => behind_calls n b.p all _ (p + 1) v W S (fun g hg => Nat.lt_of_lt_of_le (hS g hg) hW.size) (hsh b (List.mem_of_getElem? hb)) hl h2 (hv.on hS hW)⟩)
  have HV := hide hv
  obtain ⟨ao, cap, rfl, hc, hm, -, hrow⟩ := hv
  obtain ⟨g, o, rfl, hg, hrow⟩ := hrow hne
  have hgw := hS g hg
  have hn1 := hrow.get 0 hp0
  rw [hn0] at hn1
  obtain ⟨-, -, -, c3, -⟩ := hn1
  dsimp only at c3
  rw [Nat.zero_mul, Nat.add_zero] at c3
  have hcl : cs.length ≤ 1000 := by have := brs_count (rowN n) cs; have := congrArg List.length hall; rw [List.length_cons] at this; omega
  have HROW := hide hrow
  have HG := hide hg
  have HSS := hide hS
  have H1 : Hid (all.drop 1 = brsBy (rowN n) cs) := hide (by rw [List.append_nil, Nat.zero_add] at h1; exact h1)
  obtain ⟨K, hK⟩ : ∃ K, cs.length = K := ⟨_, rfl⟩
  rw [hK] at c3 hcl
  have HK := hide hK
  obtain ⟨M, hM⟩ : ∃ M, all.length = M := ⟨_, rfl⟩
  rw [hM] at hp0 hl hc HB ⊢
  have HM := hide hM
  clear hi hz0 hz1 hz2 hall hne h0 h1 hn0 hrow hK hM hsh hg
  go_enter Tryz.func189, Tryz.ntmps189
  go_wp2_with fail
  go_loopw [3, 4, 5] (fun cv av kv wr => ∃ (k p : Nat) (acc : List (BV n)), k ≤ K ∧ kv = .int .i64 k ∧ av = .int .i64 p ∧ RoundS n S w wr all cs cv k p acc) (fun _ _ kv _ => K - (intOf kv).toNat)
  case atStart => exact ⟨0, 1, [], Nat.zero_le _, rfl, rfl, ⟨rfl, H1.out, owns_empty _ _ _ _ _ (Nat.le_refl _) (mheap_new _ _ _ rfl), (fun x hx => by cases hx), malloc1 _ _, by rw [HM.out]; exact hp0⟩⟩
  case round =>
    obtain ⟨k, p, acc, hk, rfl, rfl, hR⟩ := hrel
    have HR := hide hR
    have hzw := hR.bel.size
    have hple := hR.le
    rw [HM.out] at hple
    have halen : acc.length = k := by have := congrArg List.length hR.done; rw [List.length_map, List.length_take, HK.out] at this; omega
    obtain ⟨cp, cc, hcv⟩ := owns_shape hR.own
    rw [halen] at hcv
    subst hcv
    have HAL := hide halen
    have d3 := (hR.bel.cell (p := ⟨g, o + 3, none⟩) hgw).trans c3
    clear halen
    by_cases hlt : k < K
    · obtain ⟨d, hdk⟩ : ∃ d, cs[k]? = some d := ⟨cs[k]'(by rw [HK.out]; exact hlt), List.getElem?_eq_getElem _⟩
      obtain ⟨hgp, hd1, hd2, hd3, hcall⟩ := HB.out k p d hdk hR.rest
      obtain ⟨hpl, hnp⟩ := List.getElem?_eq_some_iff.1 hgp
      have HC := hide hcall
      have HD2 := hide hd2
      have hnd := (HROW.out.get p hpl).carry hgw hR.bel
      rw [hnp] at hnd
      have hrp := row_pos n d.p
      have HRD : Hid (∀ W, Below w.heap.size w W → RdS W S (.slice (some ⟨g, o + (p + 1) * 5, none⟩) (rowN n d.p).length (cap - (p + 1))) (rowN n d.p)) := hide (fun W hW => by
        refine ⟨_, _, rfl, by omega, by omega, by omega, fun _ => ⟨g, _, rfl, HG.out, ?_⟩⟩
        have := HROW.out.drop (p + 1)
        rw [hd1] at this
        exact (row_app this).block (hW.block g hgw))
      obtain ⟨dl, ds, dp⟩ := d
      obtain ⟨c0, c1, c2, c3', c4⟩ := hnd
      dsimp only at c0 c1 c2 c3' c4 hrp hd3
      have HTK : Hid (acc.map BV.b ++ [⟨dl, ds, dp⟩] = cs.take (k + 1)) := hide (by rw [hR.done, List.take_add_one, hdk]; rfl)
      obtain ⟨N, hN⟩ : ∃ N, (rowN n dp).length = N := ⟨_, rfl⟩
      obtain ⟨T, hT⟩ : ∃ T, p + 1 + N = T := ⟨_, rfl⟩
      dsimp only at HRD HC HD2
      rw [hN] at HRD HC HD2 hrp hd3
      rw [hT] at HC HD2 hd3
      have hcap : p + 1 < cap := by omega
      have hpM : p < M := by omega
      clear hcall hdk hpl hnp hd1 hd2 hR hgp
      go_wp2_with (go_at_call 117; refine (HC.out _ HR.out.bel).mono ?_; rintro e w2 ⟨rfl, hb2⟩; have HB2 := hide hb2; have hgr : g < wr.heap.size := Nat.lt_of_lt_of_le hgw hzw; have x0 := (hb2.cell (p := ⟨g, o + p * 5, none⟩) hgr).trans c0; have x1 := (hb2.cell (p := ⟨g, o + p * 5 + 1, none⟩) hgr).trans c1; have x2 := (hb2.cell (p := ⟨g, o + p * 5 + 2, none⟩) hgr).trans c2; have x3 := (hb2.cell (p := ⟨g, o + p * 5 + 3, none⟩) hgr).trans c3'; have x4 := (hb2.cell (p := ⟨g, o + p * 5 + 4, none⟩) hgr).trans c4; clear hb2)
      have HO2 : Hid (w2.drew.ownsRow w.heap.size 250 6 (.slice cp k cc) k (acc.flatMap BV.six)) := hide (by
        have := owns_below HR.out.own (HB2.out.trans ((Below.refl _ _).drew.mono HB2.out.size))
        rw [HAL.out] at this
        exact this)
      have hTN : T - (p + 1) = N := by omega
      have hwr : IntKind.i64.wrap ((p : Int) + 1) = (p : Int) + 1 := by rw [IntKind.wrap_i64]; omega
      have hw0 : 0 ≤ (p : Int) + 1 := by omega
      have hw1 : (p : Int) + 1 ≤ T := by omega
      have hwc : ¬ cap = p + 1 := by omega
      have hpT : p + 1 ≤ T := by omega
      have hTc : T ≤ cap := by omega
      go_region_law (refine stepM_at rfl (.tmp 20) (.tmp 31) 245 rfl w.heap.size 250 i0 (.agg #[.int .i64 0, .string ByteArray.empty, .string ByteArray.empty, .int .i64 0, .int .i64 0, .slice none 0 0]) 6 80 Tryz.underlying245 HI.out.1 HI.out.2.1 HI.out.2.2.1 HI.out.2.2.2 rfl (by decide) (.slice cp k cc) k (acc.flatMap BV.six) (by simp [Act.eval]) (owns_below HO2.out (malloc1 _ _)) ⟨w2.heap.size, 0, none⟩ 1 1 (BV.six (n := n) ⟨⟨dl, ds, dp⟩, .slice (some ⟨g, o + (p + 1) * 5, none⟩) N (cap - (p + 1))⟩) (by simp [Act.eval]) rfl (fun j u hj => new_rowq _ _ _ _ (by simp) j u hj) (six_one (HRD.out w (Below.refl _ _))) (by unfold maxLen; omega) (by omega) (by have := HB2.out.size; simp; omega) ?_; intro v4 w4 hown4 hgr4 hat4; have HO4 := hide hown4; have HA4 : Hid (Apart w2.drew w4 (vblocks (.slice cp k cc))) := hide (by have := (below_apart (malloc1 w2.drew _)).trans (grownBy_apart hgr4); rwa [List.nil_append] at this); obtain ⟨p4, c4', rfl⟩ := owns_shape hown4; clear hown4 hgr4 hat4)
      all_goals
        go_wp2_with fail
        go_roundw
        case rel =>
          have hlo := (owns_fresh HO2.out).lo
          have hb4 : Below w.heap.size w2.drew w4 := HA4.out.below (by have := HB2.out.size; simp; omega) hlo
          have hbw : Below w.heap.size w w2.drew := (HR.out.bel.trans (HB2.out.mono hzw)).drew
          have hb5 : Below w.heap.size w w4 := hbw.trans hb4
          refine ⟨k + 1, T, acc ++ [⟨⟨dl, ds, dp⟩, .slice (some ⟨g, o + (p + 1) * 5, none⟩) N (cap - (p + 1))⟩], hlt, by go_num, rfl, ⟨by rw [List.map_append]; exact HTK.out, HD2.out, ?_, fun x hx => ?_, hb5, by rw [HM.out]; exact hd3⟩⟩
          · rw [List.length_append, List.length_singleton, HAL.out, List.flatMap_append]
            simpa using HO4.out
          · rw [List.mem_append] at hx
            rcases hx with hx | hx
            · exact (HR.out.rds x hx).carry (fun b hb => (hb5.block b (HSS.out b hb)).trans (HR.out.bel.block b (HSS.out b hb)).symm) (fun _ h => h)
            · simp at hx
              subst hx
              exact HRD.out w4 hb5
        case measure => simp [intOf]; omega
    · obtain rfl : k = K := by omega
      have HE : Hid (acc.map BV.b = cs) := hide (by rw [hR.done]; exact List.take_of_length_le (by rw [HK.out]; exact Nat.le_refl _))
      clear hR
      go_wp2_with fail
      go_ret
      exact ⟨_, acc, rfl, HE.out, by rw [HAL.out]; have := HR.out.own; rw [HAL.out] at this; exact this, HR.out.rds, HR.out.bel⟩
end Go.Proofs.YtaaeledleldllaaGreat
namespace Go.Proofs.YtaaeledleldllaaGreat
open Go.RowKit
attribute [local go_sem ↓] Go.wp_at_zero Go.wp_at_succ

def MergedS (n : Nat) (S : Nat → Prop) (w w' : World) (e : Ending) (o : Option (Pn n)) : Prop := ∃ q r, e = .returned (.tuple #[q, .bool o.isSome]) ∧ RdS w' (plus S w.heap.size w'.heap.size) q r ∧ (∀ z, o = some z → r = rowN n z) ∧ (0 < r.length ∧ r.length ≤ 900) ∧ Below w.heap.size w w'
def MergeSCalls (n : Nat) : Prop := ∀ (S : Nat → Prop) (x y : Pn n) (u v : Value) (w : World), (∀ g, S g → g < w.heap.size) → shapeN n x → shapeN n y → fourN n x → fourN n y → (rowN n x).length + (rowN n y).length ≤ 900 → RdS w S u (rowN n x) → RdS w S v (rowN n y) → Calls Tryz.prog 157 #[u, v] w fun e w' => MergedS n S w w' e (mergeN n x y)
def TookS (n : Nat) (S : Nat → Prop) (a base : Nat) (lv : Value) (w w' : World) (e : Ending) (o : Option (List (Br (Pn n)))) : Prop := ∃ (v' : Value) (acc' : List (BV n)), e = .returned (.tuple #[v', .bool o.isSome]) ∧ (∀ l, o = some l → acc'.map BV.b = l ∧ CsO S a w' base v' acc') ∧ Apart w w' (vblocks lv) ∧ (∀ b ∈ vblocks v', b ∈ vblocks lv ∨ w.heap.size ≤ b) ∧ ∃ p l c, v' = .slice p l c
theorem take_none {n : Nat} {acc : List (Br (Pn n))} {d : Br (Pn n)} (h : ∀ (j : Nat) (c : Br (Pn n)), acc[j]? = some c → (c.l.toList == d.l.toList) = false) : takeBy (mergeN n) acc d = if acc.length < 4 then some (acc ++ [d]) else none := by
  rw [takeBy, find_none h]
theorem take_some {n k : Nat} {acc : List (Br (Pn n))} {d b : Br (Pn n)} (h : ∀ j c, acc[j]? = some c → j < k → (c.l.toList == d.l.toList) = false) (hk : acc[k]? = some b) (hb : (b.l.toList == d.l.toList) = true) : takeBy (mergeN n) acc d = match mergeN n b.p d.p with
    | none => none
    | some q => if b.s == d.s then some (acc.set k ⟨b.l, b.s, q⟩) else none := by
  rw [takeBy, find_skip h hk hb]
  simp only [hk]
  cases mergeN n b.p d.p <;> rfl
set_option maxRecDepth 100000 in
set_option maxHeartbeats 4000000 in
theorem s_take (n : Nat) (S : Nat → Prop) (a base : Nat) (hmg : MergeSCalls n) (acc : List (BV n)) (x : BV n) (lv : Value) (w : World) (h : CsO S a w base lv acc) (hbw : base ≤ w.heap.size) (hx : RdS w (but S a w.heap.size lv) x.u (rowN n x.b.p)) (hsh : ∀ y ∈ acc, shapeN n y.b.p ∧ fourN n y.b.p) (hsx : shapeN n x.b.p ∧ fourN n x.b.p) (hsz : (brsBy (rowN n) (acc.map BV.b)).length + (rowN n x.b.p).length ≤ 899) :
    Calls Tryz.prog 190 #[lv, .agg #[.int .i64 4, .string x.b.l, .string ByteArray.empty, .int .i64 0, .int .i64 x.b.s, x.u]] w fun e w' => TookS n S a base lv w w' e (takeBy (mergeN n) (acc.map BV.b) x.b) := by
  obtain ⟨i0, hi, hz0, hz1, hz2⟩ := info_parts Tryz.infoCs
  have HI := hide (And.intro hi (And.intro hz0 (And.intro hz1 hz2)))
  have HH := hide h
  have HMG := hide hmg
  have HX := hide hx
  have HSH := hide hsh
  have HSX := hide hsx
  have HSZ := hide hsz
  have hal : acc.length ≤ 899 := by have := brs_count (rowN n) (acc.map BV.b); rw [List.length_map] at this; omega
  obtain ⟨cp, cc, hcv⟩ := owns_shape h.own
  obtain ⟨A, hA⟩ : ∃ A, acc.length = A := ⟨_, rfl⟩
  rw [hA] at hcv hal
  have HA := hide hA
  subst hcv
  obtain ⟨⟨xl, xs, xp⟩, xu⟩ := x
  dsimp only at hx hsx hsz HX HSX HSZ ⊢
  have hxu : ∃ p l c, xu = .slice p l c := by obtain ⟨p, c, e, -⟩ := hx; exact ⟨_, _, _, e⟩
  obtain ⟨xq, xn, xc, rfl⟩ := hxu
  clear hi hz0 hz1 hz2 h hmg hx hsh hsx hsz hA
  go_enter Tryz.func190, Tryz.ntmps190
  go_wp2_with fail
  go_loopw [6] (fun i wr => ∃ k : Nat, k ≤ A ∧ i = .int .i64 k ∧ (∀ j c, (acc.map BV.b)[j]? = some c → j < k → (c.l.toList == xl.toList) = false) ∧ Below (w.heap.size + 1) (w.alloc (.cells #[.int .i64 4, .string xl, .string ByteArray.empty, .int .i64 0, .int .i64 xs, .slice xq xn xc] 250)) wr) (fun i _ => A - (intOf i).toNat)
  case atStart => exact ⟨0, Nat.zero_le _, rfl, fun j _ _ h => absurd h (by omega), Below.refl _ _⟩
  case round =>
    obtain ⟨k, hk, rfl, hno, hb⟩ := hrel
    have HNO := hide hno
    have HB := hide hb
    have HBW : Hid (Below w.heap.size w wr) := hide ((malloc1 w _).trans (hb.mono (by omega)))
    have hzw := HBW.out.size
    have hzw1 : w.heap.size < wr.heap.size := by have := hb.size; simp at this; omega
    have b1 : wr.cell? ⟨w.heap.size, 1, none⟩ = some (.string xl) := (hb.cell (p := ⟨w.heap.size, 1, none⟩) (by simp)).trans (by simp)
    have b4 : wr.cell? ⟨w.heap.size, 4, none⟩ = some (.int .i64 xs) := (hb.cell (p := ⟨w.heap.size, 4, none⟩) (by simp)).trans (by simp)
    have b0 : wr.cell? ⟨w.heap.size, 0, none⟩ = some (.int .i64 4) := (hb.cell (p := ⟨w.heap.size, 0, none⟩) (by simp)).trans (by simp)
    have b2 : wr.cell? ⟨w.heap.size, 2, none⟩ = some (.string ByteArray.empty) := (hb.cell (p := ⟨w.heap.size, 2, none⟩) (by simp)).trans (by simp)
    have b3 : wr.cell? ⟨w.heap.size, 3, none⟩ = some (.int .i64 0) := (hb.cell (p := ⟨w.heap.size, 3, none⟩) (by simp)).trans (by simp)
    have b5 : wr.cell? ⟨w.heap.size, 5, none⟩ = some (.slice xq xn xc) := (hb.cell (p := ⟨w.heap.size, 5, none⟩) (by simp)).trans (by simp)
    clear hno hb
    by_cases hlt : k < A
    · obtain ⟨y, hy⟩ : ∃ y, acc[k]? = some y := ⟨acc[k]'(by rw [HA.out]; exact hlt), List.getElem?_eq_getElem _⟩
      obtain ⟨cg, hcg⟩ : ∃ cg, cp = some ⟨cg, 0, none⟩ := by
        rcases HH.out.own.2 with ⟨h0, h1⟩ | ⟨g', cap', cur', hv', _⟩
        · rw [HA.out] at h1; omega
        · injection hv' with hv' _ _; exact ⟨g', hv'⟩
      subst hcg
      have HFC : Hid (∀ W, Below w.heap.size w W → W.cell? ⟨cg, k * 6 + 1, none⟩ = some (.string y.b.l) ∧ W.cell? ⟨cg, k * 6 + 4, none⟩ = some (.int .i64 y.b.s) ∧ W.cell? ⟨cg, k * 6 + 5, none⟩ = some y.u) := hide (fun W hW => by
        have hw := HH.out.keep hW
        have e := fun j (hj : j < 6) (z : Value) (hz : y.six[j]? = some z) => CsO.get (g := cg) (c := cc) (by rw [HA.out]; exact hw) hy j hj z hz
        exact ⟨e 1 (by omega) _ rfl, e 4 (by omega) _ rfl, e 5 (by omega) _ rfl⟩)
      have hym : y ∈ acc := List.mem_of_getElem? hy
      have hmy : (acc.map BV.b)[k]? = some y.b := by rw [List.getElem?_map, hy]; rfl
      have HYR := hide (HH.out.rds y hym)
      have hyu : ∃ p l c, y.u = .slice p l c := by obtain ⟨p, c, e, -⟩ := HYR.out; exact ⟨_, _, _, e⟩
      obtain ⟨⟨yl, ys, yp⟩, yu⟩ := y
      dsimp only at hyu HFC HYR
      obtain ⟨yq, yn, yc, rfl⟩ := hyu
      obtain ⟨f1, f4, f5⟩ := HFC.out wr HBW.out
      obtain ⟨q, hq⟩ : ∃ q, (yl.toList == xl.toList) = q := ⟨_, rfl⟩
      have HQ := hide hq
      have HY := hide hy
      have HMY := hide hmy
      cases q
      · clear hy hmy hym
        go_wp2_with fail
        go_region
        go_wp2_with fail
        all_goals
          go_roundw
          case rel =>
            refine ⟨k + 1, hlt, by go_num, fun j c hj hjk => ?_, by first | exact HB.out | exact HB.out.drew⟩
            by_cases e : j = k
            · subst e
              rw [HMY.out] at hj
              injection hj with hj
              subst hj
              exact HQ.out
            · exact HNO.out j c hj (by omega)
          case measure => simp [intOf]; omega
      · have HTK := hide (take_some (d := ⟨xl, xs, xp⟩) HNO.out hmy HQ.out)
        have hcgl : cg < w.heap.size := (owns_fresh HH.out.own).hi cg (by simp [vblocks, cellBlocks])
        have HFZ : Hid (∀ W, Below w.heap.size w W → ∀ j, W.frozen? ⟨cg, j, none⟩ = false) := hide (fun W hW j => (owns_fresh (HH.out.keep hW).own).free cg (by simp [vblocks, cellBlocks]) j)
        have HMC : Hid (∀ W, Below w.heap.size w W → Calls Tryz.prog 157 #[.slice yq yn yc, .slice xq xn xc] W fun e w' => MergedS n (but S a W.heap.size (.slice (some ⟨cg, 0, none⟩) A cc)) W w' e (mergeN n yp xp)) := hide (fun W hW => by
          have hw := HH.out.keep hW
          have hs1 := (brs_get (f := rowN n) hmy).1
          have hs2 := HSZ.out
          dsimp only at hs1
          exact HMG.out _ yp xp _ _ W (fun g hg => plus_lt hw.low hw.siz hg.1) (HSH.out _ hym).1 HSX.out.1 (HSH.out _ hym).2 HSX.out.2 (by omega) (hw.rds _ hym) (HX.out.carry (fun g hg => hW.block g (plus_lt HH.out.low HH.out.siz hg.1)) (fun g hg => ⟨plus_up hW.size hg.1, hg.2⟩)))
        obtain ⟨om, hom⟩ : ∃ om, mergeN n yp xp = om := ⟨_, rfl⟩
        have HOM := hide hom
        rw [hom] at HMC
        dsimp only at HTK
        rw [hom] at HTK
        clear hy hmy hym hom
        obtain ⟨rq, hrq⟩ : ∃ rq, (ys == xs) = rq := ⟨_, rfl⟩
        have HRQ := hide hrq
        cases om with
        | none =>
          go_wp2_with fail
          go_region
          all_goals
            go_wp2_with fail
            go_region_law (go_simp; go_at_call 157; refine (HMC.out _ (by first | exact HBW.out.drew.drew | exact HBW.out.drew | exact HBW.out)).mono ?_; rintro e w3 ⟨q3, r3, rfl, h3a, h3b, h3c, h3d⟩; have H3A := hide h3a; have H3B := hide h3b; have H3C := hide h3c; have HD3 := hide h3d; have HB3 : Hid (Below w.heap.size w w3) := hide (Below.trans (by first | exact HBW.out.drew.drew | exact HBW.out.drew | exact HBW.out) (h3d.mono (by simpa using hzw))); have t4 := (HFC.out w3 HB3.out).2.1; have t5 := (HFC.out w3 HB3.out).2.2; have y4 : w3.cell? ⟨w.heap.size, 4, none⟩ = some (.int .i64 xs) := (h3d.cell (p := ⟨w.heap.size, 4, none⟩) (by simpa using hzw1)).trans b4; have hf3 := HFZ.out w3 HB3.out; obtain ⟨ao3, cap3, rfl, -⟩ := h3a; clear h3b h3c h3d)
            all_goals
              go_wp2_with fail
              have k4 : (w3.setCell ⟨cg, k * 6 + 5, none⟩ (.slice ao3 r3.length cap3)).cell? ⟨cg, k * 6 + 4, none⟩ = some (.int .i64 ys) := (World.cell?_setCell_other _ _ _ _ (by intro e; injection e with _ e2; omega)).trans t4
              have k5 : (w3.setCell ⟨cg, k * 6 + 5, none⟩ (.slice ao3 r3.length cap3)).cell? ⟨w.heap.size, 4, none⟩ = some (.int .i64 xs) := (World.cell?_setCell_other _ _ _ _ (by intro e; injection e with e1 _; omega)).trans y4
              refine wp_region_grown (by kernel_rfl) (by kernel_rfl) (fun V hV => ?_)
              try simp only [Act.put, List.getElem_toArray, List.getElem_cons_succ, List.getElem_cons_zero, List.setIfInBounds_toArray, List.set_cons_zero, List.set_cons_succ]
              have hne9 := grown_some V
              have g1 := grown_cell (w := V) (by rw [hV]; exact k4)
              have g2 := grown_cell (w := V) (by rw [hV]; exact k5)
              have HV := hide hV
              clear hV
              repeat (go_big_quiet_step (fail))
              refine wpQuiet_nil ?_
              intro w4 hw4
              rw [HV.out] at hw4
              have HB34 := hide hw4
              clear hw4 hne9 g1 g2 HV k4 k5
              go_wp2_with fail
              go_ret2
              have hA4 : Apart w w4 (vblocks (.slice (some ⟨cg, 0, none⟩) A cc)) := by
                have := ((below_apart HB3.out).trans (setCell_apart w3 cg (k * 6 + 5) (.slice ao3 r3.length cap3))).trans (below_apart (HB34.out.mono (by simp)))
                simpa [vblocks, cellBlocks] using this
              rw [HTK.out]
              exact ⟨_, [], rfl, (fun l hl => by cases hl), hA4, (fun b hb => .inl hb), _, _, _, rfl⟩
        | some z =>
          cases rq
          · go_wp2_with fail
            go_region
            all_goals
              go_wp2_with fail
              go_region_law (go_simp; go_at_call 157; refine (HMC.out _ (by first | exact HBW.out.drew.drew | exact HBW.out.drew | exact HBW.out)).mono ?_; rintro e w3 ⟨q3, r3, rfl, h3a, h3b, h3c, h3d⟩; have H3A := hide h3a; have H3B := hide h3b; have H3C := hide h3c; have HD3 := hide h3d; have HB3 : Hid (Below w.heap.size w w3) := hide (Below.trans (by first | exact HBW.out.drew.drew | exact HBW.out.drew | exact HBW.out) (h3d.mono (by simpa using hzw))); have t4 := (HFC.out w3 HB3.out).2.1; have t5 := (HFC.out w3 HB3.out).2.2; have y4 : w3.cell? ⟨w.heap.size, 4, none⟩ = some (.int .i64 xs) := (h3d.cell (p := ⟨w.heap.size, 4, none⟩) (by simpa using hzw1)).trans b4; have hf3 := HFZ.out w3 HB3.out; obtain ⟨ao3, cap3, rfl, -⟩ := h3a; clear h3b h3c h3d)
              all_goals
                go_wp2_with fail
                have k4 : (w3.setCell ⟨cg, k * 6 + 5, none⟩ (.slice ao3 r3.length cap3)).cell? ⟨cg, k * 6 + 4, none⟩ = some (.int .i64 ys) := (World.cell?_setCell_other _ _ _ _ (by intro e; injection e with _ e2; omega)).trans t4
                have k5 : (w3.setCell ⟨cg, k * 6 + 5, none⟩ (.slice ao3 r3.length cap3)).cell? ⟨w.heap.size, 4, none⟩ = some (.int .i64 xs) := (World.cell?_setCell_other _ _ _ _ (by intro e; injection e with e1 _; omega)).trans y4
                refine wp_region_grown (by kernel_rfl) (by kernel_rfl) (fun V hV => ?_)
                try simp only [Act.put, List.getElem_toArray, List.getElem_cons_succ, List.getElem_cons_zero, List.setIfInBounds_toArray, List.set_cons_zero, List.set_cons_succ]
                have hne9 := grown_some V
                have g1 := grown_cell (w := V) (by rw [hV]; exact k4)
                have g2 := grown_cell (w := V) (by rw [hV]; exact k5)
                have HV := hide hV
                clear hV
                repeat (go_big_quiet_step (fail))
                refine wpQuiet_nil ?_
                intro w4 hw4
                rw [HV.out] at hw4
                have HB34 := hide hw4
                clear hw4 hne9 g1 g2 HV k4 k5
                go_wp2_with fail
                go_ret2
                have hA4 : Apart w w4 (vblocks (.slice (some ⟨cg, 0, none⟩) A cc)) := by
                  have := ((below_apart HB3.out).trans (setCell_apart w3 cg (k * 6 + 5) (.slice ao3 r3.length cap3))).trans (below_apart (HB34.out.mono (by simp)))
                  simpa [vblocks, cellBlocks] using this
                rw [HTK.out]
                dsimp only
                rw [HRQ.out]
                exact ⟨_, [], rfl, (fun l hl => by cases hl), hA4, (fun b hb => .inl hb), _, _, _, rfl⟩
          · go_wp2_with fail
            go_region
            all_goals
              go_wp2_with fail
              go_region_law (go_simp; go_at_call 157; refine (HMC.out _ (by first | exact HBW.out.drew.drew | exact HBW.out.drew | exact HBW.out)).mono ?_; rintro e w3 ⟨q3, r3, rfl, h3a, h3b, h3c, h3d⟩; have H3A := hide h3a; have H3B := hide h3b; have H3C := hide h3c; have HD3 := hide h3d; have HB3 : Hid (Below w.heap.size w w3) := hide (Below.trans (by first | exact HBW.out.drew.drew | exact HBW.out.drew | exact HBW.out) (h3d.mono (by simpa using hzw))); have t4 := (HFC.out w3 HB3.out).2.1; have t5 := (HFC.out w3 HB3.out).2.2; have y4 : w3.cell? ⟨w.heap.size, 4, none⟩ = some (.int .i64 xs) := (h3d.cell (p := ⟨w.heap.size, 4, none⟩) (by simpa using hzw1)).trans b4; have hf3 := HFZ.out w3 HB3.out; obtain ⟨ao3, cap3, rfl, -⟩ := h3a; clear h3b h3c h3d)
              all_goals
                go_wp2_with fail
                have k4 : (w3.setCell ⟨cg, k * 6 + 5, none⟩ (.slice ao3 r3.length cap3)).cell? ⟨cg, k * 6 + 4, none⟩ = some (.int .i64 ys) := (World.cell?_setCell_other _ _ _ _ (by intro e; injection e with _ e2; omega)).trans t4
                have k5 : (w3.setCell ⟨cg, k * 6 + 5, none⟩ (.slice ao3 r3.length cap3)).cell? ⟨w.heap.size, 4, none⟩ = some (.int .i64 xs) := (World.cell?_setCell_other _ _ _ _ (by intro e; injection e with e1 _; omega)).trans y4
                refine wp_region_grown (by kernel_rfl) (by kernel_rfl) (fun V hV => ?_)
                try simp only [Act.put, List.getElem_toArray, List.getElem_cons_succ, List.getElem_cons_zero, List.setIfInBounds_toArray, List.set_cons_zero, List.set_cons_succ]
                have hne9 := grown_some V
                have g1 := grown_cell (w := V) (by rw [hV]; exact k4)
                have g2 := grown_cell (w := V) (by rw [hV]; exact k5)
                have HV := hide hV
                clear hV
                repeat (go_big_quiet_step (fail))
                refine wpQuiet_nil ?_
                intro w4 hw4
                rw [HV.out] at hw4
                have HB34 := hide hw4
                clear hw4 hne9 g1 g2 HV k4 k5
                go_wp2_with fail
                go_ret2
                have hA4 : Apart w w4 (vblocks (.slice (some ⟨cg, 0, none⟩) A cc)) := by
                  have := ((below_apart HB3.out).trans (setCell_apart w3 cg (k * 6 + 5) (.slice ao3 r3.length cap3))).trans (below_apart (HB34.out.mono (by simp)))
                  simpa [vblocks, cellBlocks] using this
                have hr3 : r3 = rowN n z := H3B.out z rfl
                have hw3 := HH.out.keep HB3.out
                have hq3 : RdS w3 (but S a w3.heap.size (.slice (some ⟨cg, 0, none⟩) A cc)) (.slice ao3 r3.length cap3) (rowN n z) := by
                  rw [← hr3]
                  refine H3A.out.up (fun g hg => ?_)
                  have hd3 := HD3.out.size
                  simp at hd3
                  rcases hg with hg | hg
                  · exact ⟨plus_up (by simpa using hd3) hg.1, hg.2⟩
                  · have hg1 := hg.1
                    simp at hg1
                    have hsz := HH.out.siz
                    refine ⟨.inr ⟨by omega, hg.2⟩, fun hm => ?_⟩
                    simp [vblocks, cellBlocks] at hm
                    omega
                have hset := (cso_set (g := cg) (cap := cc) (by rw [HA.out]; exact hw3) HY.out z (.slice ao3 r3.length cap3) (by rw [HA.out]; exact hq3)).keep HB34.out
                rw [HA.out] at hset
                rw [HTK.out]
                dsimp only
                rw [HRQ.out]
                refine ⟨_, acc.set k ⟨⟨yl, ys, z⟩, .slice ao3 r3.length cap3⟩, rfl, (fun l hl => ?_), hA4, (fun b hb => .inl hb), _, _, _, rfl⟩
                have hl' : some ((acc.map BV.b).set k ⟨yl, ys, z⟩) = some l := hl
                injection hl' with hl'
                subst hl'
                exact ⟨by rw [List.map_set], hset⟩
    · obtain rfl : k = A := by omega
      have HTK : Hid (takeBy (mergeN n) (acc.map BV.b) ⟨xl, xs, xp⟩ = if (acc.map BV.b).length < 4 then some (acc.map BV.b ++ [⟨xl, xs, xp⟩]) else none) := hide (take_none (fun j c hj => HNO.out j c hj (by have := (List.getElem?_eq_some_iff.1 hj).1; rw [List.length_map, HA.out] at this; exact this)))
      have HXW : Hid (RdS wr (but S a wr.heap.size (.slice cp k cc)) (.slice xq xn xc) (rowN n xp)) := hide (HX.out.carry (fun g hg => HBW.out.block g (plus_lt HH.out.low HH.out.siz hg.1)) (fun g hg => ⟨plus_up hzw hg.1, hg.2⟩))
      go_wp2_with (at_builtin; refine wpList_append_own_at _ rfl (.tmp 55) (.tmp 57) 245 rfl base 250 i0 (.agg #[.int .i64 0, .string ByteArray.empty, .string ByteArray.empty, .int .i64 0, .int .i64 0, .slice none 0 0]) 6 80 Tryz.underlying245 HI.out.1 HI.out.2.1 HI.out.2.2.1 HI.out.2.2.2 rfl (by decide) (.slice cp k cc) k (acc.flatMap BV.six) rfl (by have := (HH.out.keep HBW.out).own; rw [HA.out] at this; exact owns_below this (malloc1 _ _)) ⟨wr.heap.size, 0, none⟩ 1 1 (BV.six (n := n) ⟨⟨xl, xs, xp⟩, .slice xq xn xc⟩) rfl rfl (fun j u hj => new_rowq wr _ _ _ rfl j u hj) (six_one HX.out) (by unfold maxLen; omega) (by omega) (by simp; omega) ?_; intro v4 w4 hown4 hgr4 _ hat4; have HM4 := hide (cso_push (HH.out.keep HBW.out) ⟨⟨xl, xs, xp⟩, .slice xq xn xc⟩ HXW.out _ (by rw [HA.out]; exact hown4) hgr4 hat4); obtain ⟨p4, c4, rfl⟩ := owns_shape hown4; clear hown4 hgr4 hat4)
      go_ret2
      rw [HTK.out]
      refine ⟨_, acc ++ [⟨⟨xl, xs, xp⟩, .slice xq xn xc⟩], ret2_bool ?_, fun l hl => ?_, ?_, fun b hb => ?_, _, _, _, rfl⟩
      · rw [List.length_map, HA.out]
        by_cases h4 : k < 4
        · rw [if_pos h4]; simp; omega
        · rw [if_neg h4]; simp; omega
      · rw [List.length_map, HA.out] at hl
        by_cases h4 : k < 4
        · rw [if_pos h4] at hl
          injection hl with hl
          subst hl
          exact ⟨by rw [List.map_append]; rfl, HM4.out.1⟩
        · rw [if_neg h4] at hl; cases hl
      · have := (below_apart HBW.out).trans HM4.out.2.1
        rwa [List.nil_append] at this
      · rcases HM4.out.2.2 b hb with h | h
        · exact .inl h
        · exact .inr (by omega)
end Go.Proofs.YtaaeledleldllaaGreat
namespace Go.Proofs.YtaaeledleldllaaGreat
open Go.RowKit
attribute [local go_sem ↓] Go.wp_at_zero Go.wp_at_succ

theorem take_as {α : Type} {mg : α → α → Option α} {acc l : List (Br α)} {d : Br α} (h : takeBy mg acc d = some l) : mergeBy mg acc [d] = some l ∧ (acc.length ≤ 4 → l.length ≤ 4) := by
  rw [takeBy] at h
  rw [mergeBy]
  split at h
  · rename_i hf
    rw [hf]
    split at h
    · rename_i h4
      injection h with h
      subst h
      exact ⟨by rw [mergeBy], fun _ => by simp; omega⟩
    · cases h
  · rename_i i hf
    rw [hf]
    dsimp only
    split at h
    · cases h
    · rename_i b hb
      rw [hb]
      dsimp only
      split at h
      · cases h
      · rename_i q hq
        rw [hq]
        dsimp only
        split at h
        · rename_i hs
          injection h with h
          subst h
          rw [if_pos hs]
          exact ⟨by rw [mergeBy], fun h4 => by rw [List.length_set]; exact h4⟩
        · cases h
theorem row_cells {w : World} {g : Nat} : ∀ {l : List Nd} {o : Nat}, RowAt w g o l → ∀ j u, (l.flatMap Nd.cells)[j]? = some u → w.cell? ⟨g, o + j, none⟩ = some u
  | [], _, _, j, u, h => by simp at h
  | x :: l, o, hr, j, u, h => by
    obtain ⟨⟨h0, h1, h2, h3, h4⟩, hr⟩ := hr
    rw [List.flatMap_cons] at h
    match j, h with
    | 0, h => simp [Nd.cells] at h; subst h; exact h0
    | 1, h => simp [Nd.cells] at h; subst h; exact h1
    | 2, h => simp [Nd.cells] at h; subst h; exact h2
    | 3, h => simp [Nd.cells] at h; subst h; exact h3
    | 4, h => simp [Nd.cells] at h; subst h; exact h4
    | j + 5, h =>
      rw [List.getElem?_append_right (by rw [Nd.cells_len]; omega), Nd.cells_len, Nat.add_sub_cancel] at h
      rw [show o + (j + 5) = o + 5 + j by omega]
      exact row_cells hr j u h
theorem NdOwn.rdS {w : World} {base : Nat} {v : Value} {l : List Nd} (h : NdOwn w base v l) (hl : l.length ≤ 2000) : RdS w (btw base w.heap.size) v l := by
  have H := h
  obtain ⟨_, hh⟩ := h
  rcases hh with ⟨rfl, h0⟩ | ⟨gb, cap, cur, rfl, hg, hblk, hc, hm, _⟩
  · have : l = [] := List.length_eq_zero_iff.1 h0
    subst this
    exact ⟨none, 0, rfl, Nat.le_refl _, Nat.zero_le _, hl, fun h => absurd rfl h⟩
  · refine ⟨_, cap, rfl, hc, hm, hl, fun _ => ⟨gb, 0, rfl, ⟨hg, (Array.getElem?_eq_some_iff.1 hblk).1⟩, row_of w gb l 0 (fun j hj => ?_)⟩⟩
    rw [Nat.zero_add]
    have e := fun i (hi : i < 5) (x : Value) (hx : (l[j].cells)[i]? = some x) => owns_cell H rfl (j * 5 + i) x ((flat_get Nd.cells 5 Nd.cells_len l j hj i hi).trans hx)
    exact ⟨e 0 (by omega) _ rfl, e 1 (by omega) _ rfl, e 2 (by omega) _ rfl, e 3 (by omega) _ rfl, e 4 (by omega) _ rfl⟩
set_option maxRecDepth 100000 in
set_option maxHeartbeats 2000000 in
theorem s_merge_no (n : Nat) (S : Nat → Prop) (x y : Pn n) (u v : Value) (w : World) (hS : ∀ g, S g → g < w.heap.size) (hx hy : Nd) (X Y : List Nd) (eX : rowN n x = hx :: X) (eY : rowN n y = hy :: Y) (hsz : (rowN n x).length + (rowN n y).length ≤ 900) (hu : RdS w S u (rowN n x)) (hv : RdS w S v (rowN n y)) (hno : rowEq (rowN n x) (rowN n y) = true ∨ (hx.op == 6 && hy.op == 6 && (hx.peer.toList == hy.peer.toList)) = false) :
    Calls Tryz.prog 157 #[u, v] w fun e w' => MergedS n S w w' e (if rowEq (rowN n x) (rowN n y) then some x else none) := by
  obtain ⟨r, hr⟩ : ∃ r, rowEq (rowN n x) (rowN n y) = r := ⟨_, rfl⟩
  have HSM : Hid (∀ W, Below w.heap.size w W → Calls Tryz.prog 188 #[u, v] W fun e w' => e = .returned (.bool r) ∧ Below W.heap.size W w') := hide (fun W hW => by
    rw [← hr]
    exact s_same _ _ u v W S (fun g hg => Nat.lt_of_lt_of_le (hS g hg) hW.size) (hu.on hS hW) (hv.on hS hW))
  have HUR : Hid (∀ W, Below w.heap.size w W → RdS W (plus S w.heap.size W.heap.size) u (rowN n x)) := hide (fun W hW => (hu.on hS hW).up (fun g hg => .inl hg))
  have HSZ := hide hsz
  rw [hr] at hno ⊢
  rw [eX] at hu
  rw [eY] at hv
  obtain ⟨ax, cx, rfl, hcx, hmx, -, hrx⟩ := hu
  obtain ⟨ay, cy, rfl, hcy, hmy, -, hry⟩ := hv
  obtain ⟨gx, ox, rfl, hgx, hrx⟩ := hrx (by simp)
  obtain ⟨gy, oy, rfl, hgy, hry⟩ := hry (by simp)
  obtain ⟨⟨x0, -, x2, -, -⟩, -⟩ := hrx
  obtain ⟨⟨y0, -, y2, -, -⟩, -⟩ := hry
  have hgxw := hS gx hgx
  have hgyw := hS gy hgy
  simp only [List.length_cons] at HSM HUR hcx hcy ⊢
  obtain ⟨L, hL⟩ : ∃ L, X.length = L := ⟨_, rfl⟩
  obtain ⟨M, hM⟩ : ∃ M, Y.length = M := ⟨_, rfl⟩
  rw [hL] at HSM HUR hcx ⊢
  rw [hM] at HSM hcy ⊢
  clear hr hL hM hS eX eY hsz
  cases r
  · obtain ⟨op1, n1, p1, m1, s1⟩ := hx
    obtain ⟨op2, n2, p2, m2, s2⟩ := hy
    dsimp only at hno x0 x2 y0 y2
    have hno' : (op1 == 6 && op2 == 6 && (p1.toList == p2.toList)) = false := by rcases hno with h | h; cases h; exact h
    obtain ⟨q1, h1⟩ : ∃ q, (op1 != 6) = q := ⟨_, rfl⟩
    obtain ⟨q2, h2⟩ : ∃ q, (op2 != 6) = q := ⟨_, rfl⟩
    obtain ⟨q3, h3⟩ : ∃ q, (p1.toList == p2.toList) = q := ⟨_, rfl⟩
    have e1 : (op1 == 6) = !q1 := by rw [← h1, bne, Bool.not_not]
    have e2 : (op2 == 6) = !q2 := by rw [← h2, bne, Bool.not_not]
    rw [e1, e2, h3] at hno'
    clear hno e1 e2
    go_enter Tryz.func157, Tryz.ntmps157
    go_wp2_with (go_at_call 188; refine (HSM.out _ (Below.refl _ _)).mono ?_; rintro e w1 ⟨rfl, hb1⟩; have HB1 := hide hb1; have c0 := (hb1.cell (p := ⟨gx, ox, none⟩) hgxw).trans x0; have c2 := (hb1.cell (p := ⟨gx, ox + 2, none⟩) hgxw).trans x2; have d0 := (hb1.cell (p := ⟨gy, oy, none⟩) hgyw).trans y0; have d2 := (hb1.cell (p := ⟨gy, oy + 2, none⟩) hgyw).trans y2; clear hb1)
    refine wp_region_grown (by kernel_rfl) (by kernel_rfl) (fun V hV => ?_)
    try simp only [Act.put, List.getElem_toArray, List.getElem_cons_succ, List.getElem_cons_zero, List.setIfInBounds_toArray, List.set_cons_zero, List.set_cons_succ]
    have hne9 := grown_some V
    have g0 := grown_cell (w := V) (by rw [hV]; exact c0)
    have g2 := grown_cell (w := V) (by rw [hV]; exact c2)
    have k0 := grown_cell (w := V) (by rw [hV]; exact d0)
    have k2 := grown_cell (w := V) (by rw [hV]; exact d2)
    have HV := hide hV
    clear hV
    cases q1
    · cases q2
      · cases q3
        · repeat (go_big_quiet_step (fail))
          refine wpQuiet_nil ?_
          intro w4 hw4
          rw [HV.out] at hw4
          have HB4 : Hid (Below w.heap.size w w4) := hide (HB1.out.trans (hw4.mono HB1.out.size))
          clear hw4 hne9 g0 g2 k0 k2 HV
          go_wp2_with fail
          go_ret2
          exact ⟨_, _, rfl, HUR.out w4 HB4.out, (fun z hz => by cases hz), ⟨row_pos _ _, by have := HSZ.out; omega⟩, HB4.out⟩
        · cases hno'
      · repeat (go_big_quiet_step (fail))
        refine wpQuiet_nil ?_
        intro w4 hw4
        rw [HV.out] at hw4
        have HB4 : Hid (Below w.heap.size w w4) := hide (HB1.out.trans (hw4.mono HB1.out.size))
        clear hw4 hne9 g0 g2 k0 k2 HV
        go_wp2_with fail
        go_ret2
        exact ⟨_, _, rfl, HUR.out w4 HB4.out, (fun z hz => by cases hz), ⟨row_pos _ _, by have := HSZ.out; omega⟩, HB4.out⟩
    · repeat (go_big_quiet_step (fail))
      refine wpQuiet_nil ?_
      intro w4 hw4
      rw [HV.out] at hw4
      have HB4 : Hid (Below w.heap.size w w4) := hide (HB1.out.trans (hw4.mono HB1.out.size))
      clear hw4 hne9 g0 g2 k0 k2 HV
      go_wp2_with fail
      go_ret2
      exact ⟨_, _, rfl, HUR.out w4 HB4.out, (fun z hz => by cases hz), ⟨row_pos _ _, by have := HSZ.out; omega⟩, HB4.out⟩
  · go_enter Tryz.func157, Tryz.ntmps157
    go_wp2_with (go_at_call 188; refine (HSM.out _ (Below.refl _ _)).mono ?_; rintro e w1 ⟨rfl, hb1⟩; have HB1 := hide hb1; clear hb1)
    go_ret2
    exact ⟨_, _, rfl, HUR.out w1 HB1.out, (fun z hz => by have hz' : some x = some z := hz; injection hz' with hz'; rw [hz']), ⟨row_pos _ _, by have := HSZ.out; omega⟩, HB1.out⟩
end Go.Proofs.YtaaeledleldllaaGreat
