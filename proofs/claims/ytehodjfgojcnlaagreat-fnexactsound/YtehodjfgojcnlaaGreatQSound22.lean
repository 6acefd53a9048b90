/- The specification: is each variable between two places of a recursion there? -/
import Derived.Test.YtehodjfgojcnlaaGreatQSound21
namespace Go.Proofs.YtehodjfgojcnlaaGreat
open Go.RowKit
attribute [local go_sem ↓] Go.wp_at_zero Go.wp_at_succ

structure RoundD (w wr : World) (mid : List Nd) (nv : Value) (k : Nat) (ns : List ByteArray) : Prop where
  same : closedL ns (mid.drop k) = closedL [] mid
  own : wr.ownsRow w.heap.size 9 1 nv ns.length (ns.map Value.string)
  len : ns.length ≤ k
  bel : Below w.heap.size w wr
set_option maxRecDepth 100000 in
set_option maxHeartbeats 2000000 in
theorem s_closed (all mid post : List Nd) (pos : Nat) (v : Value) (w : World) (S : Nat → Prop) (hS : ∀ g, S g → g < w.heap.size) (hl : all.length ≤ 1000) (hpl : pos ≤ 1000) (h : all.drop pos = mid ++ post) (hv : RdS w S v all) :
    Calls Tryz.prog 32 #[v, .int .i64 pos, .int .i64 ((pos + mid.length : Nat) : Int)] w fun e w' => e = .returned (.bool (closedL [] mid)) ∧ Below w.heap.size w w' := by
  obtain ⟨i0, hi, hz0, hz1, hz2⟩ := info_parts Tryz.infoStr
  have HI := hide (And.intro hi (And.intro hz0 (And.intro hz1 hz2)))
  obtain ⟨ao, cap, rfl, hc, hm, -, hrow⟩ := hv
  have HR := hide hrow
  have HH := hide h
  have HS := hide hS
  have hlm : mid.length ≤ 1000 := by have := congrArg List.length h; rw [List.length_drop, List.length_append] at this; omega
  obtain ⟨M, hM⟩ : ∃ M, mid.length = M := ⟨_, rfl⟩
  obtain ⟨L, hL⟩ : ∃ L, all.length = L := ⟨_, rfl⟩
  rw [hM] at hlm ⊢
  obtain ⟨T, hT⟩ : ∃ T, pos + M = T := ⟨_, rfl⟩
  rw [hT]
  rw [hL] at hl hc ⊢
  have HM := hide hM
  have HL := hide hL
  clear hrow h hS hM hL hi hz0 hz1 hz2
  go_enter Tryz.func32, Tryz.ntmps32
  go_wp2_with fail
  go_loopw [7, 8] (fun nv i wr => ∃ (k : Nat) (ns : List ByteArray), k ≤ M ∧ i = .int .i64 ((pos + k : Nat) : Int) ∧ RoundD w wr mid nv k ns) (fun _ i _ => pos + M - (intOf i).toNat)
  case atStart => exact ⟨0, [], Nat.zero_le _, rfl, ⟨rfl, owns_empty _ _ _ _ _ (Nat.le_refl _) (mheap_new _ _ _ rfl), Nat.le_refl _, malloc1 _ _⟩⟩
  case round =>
    obtain ⟨k, ns, hk, rfl, hR⟩ := hrel
    have HRR := hide hR
    have hzw := hR.bel.size
    have hnl := hR.len
    obtain ⟨np, nc, hnv⟩ := owns_shape hR.own
    obtain ⟨Q, hQ⟩ : ∃ Q, ns.length = Q := ⟨_, rfl⟩
    rw [hQ] at hnv hnl
    have HQ := hide hQ
    subst hnv
    by_cases hlt : k < M
    · have hkm : k < mid.length := by rw [HM.out]; exact hlt
      obtain ⟨hpk, hget⟩ := mid_get HH.out hkm
      obtain ⟨g, o, rfl, hg, hrow⟩ := HR.out (fun e => by rw [e] at hpk; simp at hpk)
      have hgw := HS.out g hg
      have hnode := (hrow.get (pos + k) hpk).carry hgw hR.bel
      rw [hget] at hnode
      have HST : Hid (∀ x, mid[k] = x → closedL [] mid = if x.op == 2 then closedL (ns ++ [x.name]) (mid.drop (k + 1)) else if x.op == 1 && !hasB ns x.name then false else closedL ns (mid.drop (k + 1))) := hide (fun x hx => by
        rw [← hR.same, List.drop_eq_getElem_cons hkm, hx, closedL])
      obtain ⟨x, hx⟩ : ∃ x, mid[k] = x := ⟨_, rfl⟩
      rw [hx] at hnode
      have HS1 := hide (HST.out x hx)
      have HOWN : Hid (wr.ownsRow w.heap.size 9 1 (.slice np Q nc) Q (ns.map Value.string)) := hide (by have := hR.own; rw [HQ.out] at this; exact this)
      obtain ⟨op, name, peer, many, sort⟩ := x
      obtain ⟨c0, c1, c2, c3, c4⟩ := hnode
      dsimp only at c0 c1 c2 c3 c4
      rw [HL.out] at hpk
      have hbw : g < wr.heap.size := Nat.lt_of_lt_of_le hgw hzw
      clear hrow hget hx hR hQ HST
      by_cases h2 : op = 2
      · subst h2
        go_wp2_with (at_builtin; refine wpList_append_own _ rfl (.tmp 22) (.tmp 28) 34 rfl w.heap.size 9 i0 (.string ByteArray.empty) 1 16 Tryz.underlying34 HI.out.1 HI.out.2.1 HI.out.2.2.1 HI.out.2.2.2 rfl (by decide) (.slice np Q nc) Q (ns.map Value.string) rfl (owns_below HOWN.out (malloc1 wr _)) ⟨wr.heap.size, 0, none⟩ 1 1 [.string name] rfl rfl (fun j u hj => new_rowq _ _ _ _ (by simp) j u hj) (by intro u hu; simp at hu; subst hu; rfl) (by unfold maxLen; omega) (by omega) (by simp; omega) ?_; intro v4 w4 hown4 hgr4 _; have HO4 := hide hown4; have HA4 : Hid (Apart wr w4 (vblocks (.slice np Q nc))) := hide (by have := (below_apart (malloc1 wr _)).trans (grownBy_apart hgr4); rwa [List.nil_append] at this); have d0 : w4.cell? ⟨g, o + (pos + k) * 5, none⟩ = some (.int .i64 2) := HA4.out.cell' c0 (fun hm => absurd ((owns_fresh HOWN.out).lo _ hm) (by omega)); obtain ⟨p4, c4', rfl⟩ := owns_shape hown4; clear hown4 hgr4)
        go_roundw
        case rel =>
          refine ⟨k + 1, ns ++ [name], hlt, by go_num, ⟨?_, ?_, by rw [List.length_append, HQ.out]; simp; omega, HRR.out.bel.trans (HA4.out.below hzw (owns_fresh HOWN.out).lo)⟩⟩
          · rw [HS1.out]; rfl
          · rw [List.length_append, List.length_singleton, HQ.out, List.map_append]
            exact HO4.out
        case measure => simp [intOf]; omega
      · have e2 : (op == 2) = false := by simpa using h2
        by_cases h1 : op = 1
        · subst h1
          obtain ⟨q, hq⟩ : ∃ q, hasB ns name = q := ⟨_, rfl⟩
          have HQQ := hide hq
          have HCO : Hid (∀ W, Below wr.heap.size wr W → Calls Tryz.prog 47 #[.slice np Q nc, .string name] W fun e w' => e = .returned (.bool q) ∧ w' = W) := hide (fun W hW => by
            have := s_among ns name (.slice np Q nc) W (texts_own (base := w.heap.size) (e := 9) (by rw [HQ.out]; exact owns_below HOWN.out hW) (by rw [HQ.out]; omega))
            rw [hq] at this
            exact this)
          clear hq
          cases q
          · go_wp2_with (go_at_call 47; refine (HCO.out _ (Below.refl _ _)).mono ?_; rintro e w' ⟨rfl, hw'⟩; subst w')
            go_ret
            refine ⟨ret_bool ?_, HRR.out.bel⟩
            rw [HS1.out]
            simp [HQQ.out]
          · go_wp2_with (go_at_call 47; refine (HCO.out _ (Below.refl _ _)).mono ?_; rintro e w' ⟨rfl, hw'⟩; subst w')
            go_roundw
            case rel =>
              refine ⟨k + 1, ns, hlt, by go_num, ⟨?_, by rw [HQ.out]; exact HOWN.out, by rw [HQ.out]; omega, HRR.out.bel⟩⟩
              rw [HS1.out]
              simp [HQQ.out]
            case measure => simp [intOf]; omega
        · have e1 : (op == 1) = false := by simpa using h1
          go_wp2_with fail
          go_roundw
          case rel =>
            refine ⟨k + 1, ns, hlt, by go_num, ⟨?_, by rw [HQ.out]; exact HOWN.out, by rw [HQ.out]; omega, HRR.out.bel⟩⟩
            rw [HS1.out]
            simp [e1, e2]
          case measure => simp [intOf]; omega
    · have HT : Hid (closedL [] mid = true) := hide (by rw [← HRR.out.same, List.drop_of_length_le (by rw [HM.out]; omega), closedL])
      go_wp2_with fail
      go_ret
      exact ⟨ret_bool HT.out, HRR.out.bel⟩
end Go.Proofs.YtehodjfgojcnlaaGreat
/- The specification: cases of a call's own; a talk split into its cases. -/
namespace Go.Proofs.YtehodjfgojcnlaaGreat
open Go.RowKit
attribute [local go_sem ↓] Go.wp_at_zero Go.wp_at_succ

section
variable {n : Nat}
def BV.six (x : BV n) : List Value := [.int .i64 4, .string x.b.l, .string ByteArray.empty, .int .i64 0, .int .i64 x.b.s, x.u]
theorem BV.six_len (x : BV n) : x.six.length = 6 := rfl
theorem six_one {w : World} {S : Nat → Prop} {x : BV n} {r : List Nd} (h : RdS w S x.u r) : ∀ u ∈ x.six, u.oneCell' = true := by
  intro u hu
  obtain ⟨ao, cap, e, -⟩ := h
  simp [BV.six] at hu
  rcases hu with rfl | rfl | rfl | rfl | rfl | rfl
  · rfl
  · rfl
  · rfl
  · rfl
  · rfl
  · rw [e]; rfl
/-- cases of a call's own; their rows lie in S, or behind a, and not in the row itself -/
structure CsO (S : Nat → Prop) (a : Nat) (w : World) (base : Nat) (v : Value) (l : List (BV n)) : Prop where
  own : w.ownsRow base 119 6 v l.length (l.flatMap BV.six)
  rds : ∀ x ∈ l, RdS w (but S a w.heap.size v) x.u (rowN n x.b.p)
  low : ∀ g, S g → g < a
  ab : a ≤ base
  siz : a ≤ w.heap.size
variable {S : Nat → Prop} {a : Nat}
theorem CsO.keep {w w' : World} {base : Nat} {v : Value} {l : List (BV n)} (h : CsO S a w base v l) (hb : Below w.heap.size w w') : CsO S a w' base v l :=
  ⟨owns_below h.own hb, fun x hx => (h.rds x hx).carry (fun g hg => hb.block g (plus_lt h.low h.siz hg.1)) (fun _ hg => ⟨plus_up hb.size hg.1, hg.2⟩), h.low, h.ab, Nat.le_trans h.siz hb.size⟩
theorem CsO.get {w : World} {base g c : Nat} {l : List (BV n)} (h : CsO S a w base (.slice (some ⟨g, 0, none⟩) l.length c) l) {i : Nat} {x : BV n} (hi : l[i]? = some x) (j : Nat) (hj : j < 6) (y : Value) (hy : x.six[j]? = some y) : w.cell? ⟨g, i * 6 + j, none⟩ = some y := by
  obtain ⟨hlt, hxe⟩ := List.getElem?_eq_some_iff.1 hi
  exact owns_cell h.own rfl (i * 6 + j) y ((flat_get BV.six 6 BV.six_len l i hlt j hj).trans (by rw [hxe]; exact hy))
/-- a case more -/
theorem cso_push {w w2 : World} {base : Nat} {v v' : Value} {l : List (BV n)} (h : CsO S a w base v l) (x : BV n) (hx : RdS w (but S a w.heap.size v) x.u (rowN n x.b.p)) (o : Obj) (hown : w2.ownsRow base 119 6 v' (l.length + 1) (l.flatMap BV.six ++ x.six)) (hg : (w.alloc o).grownBy w2 v.ownBlock) (hat : v'.ownBlock = v.ownBlock ∨ v'.ownBlock = some (w.alloc o).heap.size) : CsO S a w2 base v' (l ++ [x]) ∧ Apart w w2 (vblocks v) ∧ ∀ b ∈ vblocks v', b ∈ vblocks v ∨ w.heap.size ≤ b := by
  obtain ⟨p, c, hv⟩ := owns_shape h.own
  obtain ⟨p', c', hv'⟩ := owns_shape hown
  have hA : Apart w w2 (vblocks v) := by
    rw [hv] at hg ⊢
    have := (below_apart (malloc1 w o)).trans (grownBy_apart hg)
    rwa [List.nil_append] at this
  have key : ∀ {r : List Nd} {u : Value}, RdS w (but S a w.heap.size v) u r → RdS w2 (but S a w2.heap.size v') u r := fun hq => hq.carry (fun g hg => hA.block g (plus_lt h.low h.siz hg.1) hg.2) (fun g hg => ⟨plus_up hA.size hg.1, fun hm => by
    have hm' := (own_blocks hv').2 hm
    rcases hat with e | e
    · rw [e] at hm'
      exact hg.2 ((own_blocks hv).1 hm')
    · rw [e] at hm'
      have := plus_lt h.low h.siz hg.1
      simp at hm'
      omega⟩)
  refine ⟨⟨?_, fun y hy => ?_, h.low, h.ab, Nat.le_trans h.siz hA.size⟩, hA, fun b hm => ?_⟩
  · rw [List.length_append, List.length_singleton, List.flatMap_append]
    simpa using hown
  · rw [List.mem_append] at hy
    rcases hy with hy | hy
    · exact key (h.rds y hy)
    · simp at hy
      subst hy
      exact key hx
  · have hm' := (own_blocks hv').2 hm
    rcases hat with e | e
    · rw [e] at hm'
      exact .inl ((own_blocks hv).1 hm')
    · rw [e] at hm'
      simp at hm'
      exact .inr (by omega)
theorem six_set : ∀ (l : List (BV n)) (i : Nat) (x : BV n) (u : Value), l[i]? = some x → (l.flatMap BV.six).set (i * 6 + 5) u = (l.set i ⟨x.b, u⟩).flatMap BV.six
  | [], i, x, u, h => by simp at h
  | a :: l, 0, x, u, h => by
    simp at h
    subst h
    rfl
  | a :: l, i + 1, x, u, h => by
    rw [List.getElem?_cons_succ] at h
    rw [List.set_cons_succ, List.flatMap_cons, List.flatMap_cons, ← six_set l i x u h]
    have e : (i + 1) * 6 + 5 = a.six.length + (i * 6 + 5) := by rw [BV.six_len]; omega
    rw [e, List.set_append_right _ _ (by omega), Nat.add_sub_cancel_left]
/-- another row in its place -/
theorem cso_set {w : World} {base g cap : Nat} {l : List (BV n)} (h : CsO S a w base (.slice (some ⟨g, 0, none⟩) l.length cap) l) {i : Nat} {x : BV n} (hi : l[i]? = some x) (q : Pn n) (u : Value) (hu : RdS w (but S a w.heap.size (.slice (some ⟨g, 0, none⟩) l.length cap)) u (rowN n q)) : CsO S a (w.setCell ⟨g, i * 6 + 5, none⟩ u) base (.slice (some ⟨g, 0, none⟩) l.length cap) (l.set i ⟨⟨x.b.l, x.b.s, q⟩, u⟩) := by
  have hA := setCell_apart w g (i * 6 + 5) u
  have key : ∀ {r : List Nd} {u' : Value}, RdS w (but S a w.heap.size (.slice (some ⟨g, 0, none⟩) l.length cap)) u' r → RdS (w.setCell ⟨g, i * 6 + 5, none⟩ u) (but S a (w.setCell ⟨g, i * 6 + 5, none⟩ u).heap.size (.slice (some ⟨g, 0, none⟩) l.length cap)) u' r := fun hq => hq.carry (fun b hb => hA.block b (plus_lt h.low h.siz hb.1) (fun hm => hb.2 (by simpa [vblocks, cellBlocks] using hm))) (fun b hb => ⟨plus_up hA.size hb.1, hb.2⟩)
  refine ⟨?_, fun y hy => ?_, h.low, h.ab, Nat.le_trans h.siz hA.size⟩
  · have := (World.ownsRow.stored h.own (i * 6 + 5) u).1
    rw [six_set l i x u hi] at this
    rw [List.length_set]
    have e : (l.set i ⟨x.b, u⟩).flatMap BV.six = (l.set i ⟨⟨x.b.l, x.b.s, q⟩, u⟩).flatMap BV.six := by
      clear hi this hu h hA key
      induction l generalizing i with
      | nil => rfl
      | cons a l ih =>
        cases i with
        | zero => rfl
        | succ i => rw [List.set_cons_succ, List.set_cons_succ, List.flatMap_cons, List.flatMap_cons, ih]
    rw [← e]
    exact this
  · rcases mem_set hy with hy | hy
    · exact key (h.rds y hy)
    · subst hy
      exact key hu
end
theorem row_app {w : World} {g : Nat} : ∀ {l r : List Nd} {o : Nat}, RowAt w g o (l ++ r) → RowAt w g o l
  | [], _, _, _ => trivial
  | _ :: _, _, _, h => ⟨h.1, row_app h.2⟩
theorem Tryz.infoCs : (Tryz.prog.info? 119).map (fun i => (i.zero, i.size, i.bytes)) = some (some (.agg #[.int .i64 0, .string ByteArray.empty, .string ByteArray.empty, .int .i64 0, .int .i64 0, .slice none 0 0]), 6, 80) := by kernel_rfl
/-- where the rounds stand -/
structure RoundS (n : Nat) (S : Nat → Prop) (w wr : World) (all : List Nd) (cs : List (Br (Pn n))) (cv : Value) (k p : Nat) (acc : List (BV n)) : Prop where
  done : acc.map BV.b = cs.take k
  rest : all.drop p = brsBy (rowN n) (cs.drop k)
  own : wr.ownsRow w.heap.size 119 6 cv acc.length (acc.flatMap BV.six)
  rds : ∀ x ∈ acc, RdS wr S x.u (rowN n x.b.p)
  bel : Below w.heap.size w wr
  le : p ≤ all.length
set_option maxRecDepth 100000 in
set_option maxHeartbeats 2000000 in
theorem s_split (n : Nat) (t : Tk) (cs : List (Br (Pn n))) (hsh : ∀ b ∈ cs, shapeN n b.p) (all : List Nd) (hall : all = rowN (n + 1) (.talk t cs)) (hl : all.length ≤ 1000) (v : Value) (w : World) (S : Nat → Prop) (hS : ∀ g, S g → g < w.heap.size) (hv : RdS w S v all) :
    Calls Tryz.prog 79 #[v] w fun e w' => ∃ (v' : Value) (L : List (BV n)), e = .returned v' ∧ L.map BV.b = cs ∧ w'.ownsRow w.heap.size 119 6 v' L.length (L.flatMap BV.six) ∧ (∀ x ∈ L, RdS w' S x.u (rowN n x.b.p)) ∧ Below w.heap.size w w' := by
  obtain ⟨i0, hi, hz0, hz1, hz2⟩ := info_parts Tryz.infoCs
  have HI := hide (And.intro hi (And.intro hz0 (And.intro hz1 hz2)))
  rw [row_talk] at hall
  have hne : all ≠ [] := by rw [hall]; simp
  have h0 : all.drop 0 = ⟨t.op, t.a, t.b, (cs.length : Int), 0⟩ :: brsBy (rowN n) cs ++ [] := by rw [List.append_nil, List.drop_zero]; exact hall
  obtain ⟨hp0, hn0, h1⟩ := drop_next h0
  have HB : Hid (∀ (k p : Nat) (b : Br (Pn n)), cs[k]? = some b → all.drop p = brsBy (rowN n) (cs.drop k) → all[p]? = some ⟨4, b.l, noT, 0, b.s⟩ ∧ all.drop (p + 1) = rowN n b.p ++ brsBy (rowN n) (cs.drop (k + 1)) ∧ all.drop (p + 1 + (rowN n b.p).length) = brsBy (rowN n) (cs.drop (k + 1)) ∧ p + 1 + (rowN n b.p).length ≤ all.length ∧ ∀ W, Below w.heap.size w W → Calls Tryz.prog 30 #[v, .int .i64 ((p : Int) + 1)] W fun e w' => e = .returned (.int .i64 ((p + 1 + (rowN n b.p).length : Nat) : Int)) ∧ Below W.heap.size W w') := hide (fun k p b hb hd => by
    have hlt := (List.getElem?_eq_some_iff.1 hb).1
    have hbe : cs[k] = b := (List.getElem?_eq_some_iff.1 hb).2
    rw [List.drop_eq_getElem_cons hlt, hbe, brs_cons] at hd
    obtain ⟨hp1, hn1, h2⟩ := drop_next (r := rowN n b.p ++ brsBy (rowN n) (cs.drop (k + 1))) (post := []) (by rw [hd, List.append_nil])
    rw [List.append_nil] at h2
    have hne2 : rowN n b.p ≠ [] := fun e => by have := row_pos n b.p; rw [e] at this; simp at this
    exact ⟨by rw [List.getElem?_eq_getElem hp1, hn1], h2, drop_more h2, by have := drop_len h2 hne2; omega, fun W hW => behind_calls n b.p all _ (p + 1) v W S (fun g hg => Nat.lt_of_lt_of_le (hS g hg) hW.size) (hsh b (List.mem_of_getElem? hb)) hl h2 (hv.on hS hW)⟩)
  have HV := hide hv
  obtain ⟨ao, cap, rfl, hc, hm, -, hrow⟩ := hv
  obtain ⟨g, o, rfl, hg, hrow⟩ := hrow hne
  have hgw := hS g hg
  have hn1 := hrow.get 0 hp0
  rw [hn0] at hn1
  obtain ⟨-, -, -, c3, -⟩ := hn1
  dsimp only at c3
  rw [Nat.zero_mul, Nat.add_zero] at c3
  have hcl : cs.length ≤ 1000 := by have := brs_count (rowN n) cs; have := congrArg List.length hall; rw [List.length_cons] at this; omega
  have HROW := hide hrow
  have HG := hide hg
  have HSS := hide hS
  have H1 : Hid (all.drop 1 = brsBy (rowN n) cs) := hide (by rw [List.append_nil, Nat.zero_add] at h1; exact h1)
  obtain ⟨K, hK⟩ : ∃ K, cs.length = K := ⟨_, rfl⟩
  rw [hK] at c3 hcl
  have HK := hide hK
  obtain ⟨M, hM⟩ : ∃ M, all.length = M := ⟨_, rfl⟩
  rw [hM] at hp0 hl hc HB ⊢
  have HM := hide hM
  clear hi hz0 hz1 hz2 hall hne h0 h1 hn0 hrow hK hM hsh hg
  go_enter Tryz.func79, Tryz.ntmps79
  go_wp2_with fail
  go_loopw [3, 4, 5] (fun cv av kv wr => ∃ (k p : Nat) (acc : List (BV n)), k ≤ K ∧ kv = .int .i64 k ∧ av = .int .i64 p ∧ RoundS n S w wr all cs cv k p acc) (fun _ _ kv _ => K - (intOf kv).toNat)
  case atStart => exact ⟨0, 1, [], Nat.zero_le _, rfl, rfl, ⟨rfl, H1.out, owns_empty _ _ _ _ _ (Nat.le_refl _) (mheap_new _ _ _ rfl), (fun x hx => by cases hx), malloc1 _ _, by rw [HM.out]; exact hp0⟩⟩
  case round =>
    obtain ⟨k, p, acc, hk, rfl, rfl, hR⟩ := hrel
    have HR := hide hR
    have hzw := hR.bel.size
    have hple := hR.le
    rw [HM.out] at hple
    have halen : acc.length = k := by have := congrArg List.length hR.done; rw [List.length_map, List.length_take, HK.out] at this; omega
    obtain ⟨cp, cc, hcv⟩ := owns_shape hR.own
    rw [halen] at hcv
    subst hcv
    have HAL := hide halen
    have d3 := (hR.bel.cell (p := ⟨g, o + 3, none⟩) hgw).trans c3
    clear halen
    by_cases hlt : k < K
    · obtain ⟨d, hdk⟩ : ∃ d, cs[k]? = some d := ⟨cs[k]'(by rw [HK.out]; exact hlt), List.getElem?_eq_getElem _⟩
      obtain ⟨hgp, hd1, hd2, hd3, hcall⟩ := HB.out k p d hdk hR.rest
      obtain ⟨hpl, hnp⟩ := List.getElem?_eq_some_iff.1 hgp
      have HC := hide hcall
      have HD2 := hide hd2
      have hnd := (HROW.out.get p hpl).carry hgw hR.bel
      rw [hnp] at hnd
      have hrp := row_pos n d.p
      have HRD : Hid (∀ W, Below w.heap.size w W → RdS W S (.slice (some ⟨g, o + (p + 1) * 5, none⟩) (rowN n d.p).length (cap - (p + 1))) (rowN n d.p)) := hide (fun W hW => by
        refine ⟨_, _, rfl, by omega, by omega, by omega, fun _ => ⟨g, _, rfl, HG.out, ?_⟩⟩
        have := HROW.out.drop (p + 1)
        rw [hd1] at this
        exact (row_app this).block (hW.block g hgw))
      obtain ⟨dl, ds, dp⟩ := d
      obtain ⟨c0, c1, c2, c3', c4⟩ := hnd
      dsimp only at c0 c1 c2 c3' c4 hrp hd3
      have HTK : Hid (acc.map BV.b ++ [⟨dl, ds, dp⟩] = cs.take (k + 1)) := hide (by rw [hR.done, List.take_add_one, hdk]; rfl)
      obtain ⟨N, hN⟩ : ∃ N, (rowN n dp).length = N := ⟨_, rfl⟩
      obtain ⟨T, hT⟩ : ∃ T, p + 1 + N = T := ⟨_, rfl⟩
      dsimp only at HRD HC HD2
      rw [hN] at HRD HC HD2 hrp hd3
      rw [hT] at HC HD2 hd3
      have hcap : p + 1 < cap := by omega
      have hpM : p < M := by omega
      clear hcall hdk hpl hnp hd1 hd2 hR hgp
      go_wp2_with (go_at_call 30; refine (HC.out _ HR.out.bel).mono ?_; rintro e w2 ⟨rfl, hb2⟩; have HB2 := hide hb2; have hgr : g < wr.heap.size := Nat.lt_of_lt_of_le hgw hzw; have x0 := (hb2.cell (p := ⟨g, o + p * 5, none⟩) hgr).trans c0; have x1 := (hb2.cell (p := ⟨g, o + p * 5 + 1, none⟩) hgr).trans c1; have x2 := (hb2.cell (p := ⟨g, o + p * 5 + 2, none⟩) hgr).trans c2; have x3 := (hb2.cell (p := ⟨g, o + p * 5 + 3, none⟩) hgr).trans c3'; have x4 := (hb2.cell (p := ⟨g, o + p * 5 + 4, none⟩) hgr).trans c4; clear hb2)
      have HO2 : Hid (w2.drew.ownsRow w.heap.size 119 6 (.slice cp k cc) k (acc.flatMap BV.six)) := hide (by
        have := owns_below HR.out.own (HB2.out.trans ((Below.refl _ _).drew.mono HB2.out.size))
        rw [HAL.out] at this
        exact this)
      have hTN : T - (p + 1) = N := by omega
      have hwr : IntKind.i64.wrap ((p : Int) + 1) = (p : Int) + 1 := by rw [IntKind.wrap_i64]; omega
      have hw0 : 0 ≤ (p : Int) + 1 := by omega
      have hw1 : (p : Int) + 1 ≤ T := by omega
      have hwc : ¬ cap = p + 1 := by omega
      have hpT : p + 1 ≤ T := by omega
      have hTc : T ≤ cap := by omega
      go_region_law (refine stepM_at rfl (.tmp 20) (.tmp 31) 114 rfl w.heap.size 119 i0 (.agg #[.int .i64 0, .string ByteArray.empty, .string ByteArray.empty, .int .i64 0, .int .i64 0, .slice none 0 0]) 6 80 Tryz.underlying114 HI.out.1 HI.out.2.1 HI.out.2.2.1 HI.out.2.2.2 rfl (by decide) (.slice cp k cc) k (acc.flatMap BV.six) (by simp [Act.eval]) (owns_below HO2.out (malloc1 _ _)) ⟨w2.heap.size, 0, none⟩ 1 1 (BV.six (n := n) ⟨⟨dl, ds, dp⟩, .slice (some ⟨g, o + (p + 1) * 5, none⟩) N (cap - (p + 1))⟩) (by simp [Act.eval]) rfl (fun j u hj => new_rowq _ _ _ _ (by simp) j u hj) (six_one (HRD.out w (Below.refl _ _))) (by unfold maxLen; omega) (by omega) (by have := HB2.out.size; simp; omega) ?_; intro v4 w4 hown4 hgr4 hat4; have HO4 := hide hown4; have HA4 : Hid (Apart w2.drew w4 (vblocks (.slice cp k cc))) := hide (by have := (below_apart (malloc1 w2.drew _)).trans (grownBy_apart hgr4); rwa [List.nil_append] at this); obtain ⟨p4, c4', rfl⟩ := owns_shape hown4; clear hown4 hgr4 hat4)
      all_goals
        go_wp2_with fail
        go_roundw
        case rel =>
          have hlo := (owns_fresh HO2.out).lo
          have hb4 : Below w.heap.size w2.drew w4 := HA4.out.below (by have := HB2.out.size; simp; omega) hlo
          have hbw : Below w.heap.size w w2.drew := (HR.out.bel.trans (HB2.out.mono hzw)).drew
          have hb5 : Below w.heap.size w w4 := hbw.trans hb4
          refine ⟨k + 1, T, acc ++ [⟨⟨dl, ds, dp⟩, .slice (some ⟨g, o + (p + 1) * 5, none⟩) N (cap - (p + 1))⟩], hlt, by go_num, rfl, ⟨by rw [List.map_append]; exact HTK.out, HD2.out, ?_, fun x hx => ?_, hb5, by rw [HM.out]; exact hd3⟩⟩
          · rw [List.length_append, List.length_singleton, HAL.out, List.flatMap_append]
            simpa using HO4.out
          · rw [List.mem_append] at hx
            rcases hx with hx | hx
            · exact (HR.out.rds x hx).carry (fun b hb => (hb5.block b (HSS.out b hb)).trans (HR.out.bel.block b (HSS.out b hb)).symm) (fun _ h => h)
            · simp at hx
              subst hx
              exact HRD.out w4 hb5
        case measure => simp [intOf]; omega
    · obtain rfl : k = K := by omega
      have HE : Hid (acc.map BV.b = cs) := hide (by rw [hR.done]; exact List.take_of_length_le (by rw [HK.out]; exact Nat.le_refl _))
      clear hR
      go_wp2_with fail
      go_ret
      exact ⟨_, acc, rfl, HE.out, by rw [HAL.out]; have := HR.out.own; rw [HAL.out] at this; exact this, HR.out.rds, HR.out.bel⟩
end Go.Proofs.YtehodjfgojcnlaaGreat
