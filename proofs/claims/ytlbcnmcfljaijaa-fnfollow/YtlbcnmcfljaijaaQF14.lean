import Derived.Test.YtlbcnmcfljaijaaQF09
namespace Go.Proofs.Ytlbcnmcfljaijaa
open Go.RowKit

set_option maxRecDepth 100000 in
set_option maxHeartbeats 1000000 in
theorem end_2n (part : Bool) (f : Nat) (st all : List Nd) (pos bx : Nat) (a d op : Int) (rv : Value) (w : World) (hlen : st.length + (f + 1) = 10) (hst : StOk st) (ok : ∀ n ∈ all, n.ok) (ha : a = pos) (hpl : pos < all.length) (hd : d = (st.length + 1 : Nat)) (hop : op = openOf st) (hx : LookAt w bx part all) (hr : TextsAt w rv (recsOf st)) (hnil : recsOf st = [] → rv = .slice none 0 0) (name peer : ByteArray) (many sort : Int) (hih : EndCalls part f) (hyes : (recB ⟨2, name, peer, many, sort⟩ && !withinB st name) = true) (hrn : recsOf st = []) (hn : all[pos] = ⟨2, name, peer, many, sort⟩) :
    Calls Try.prog 66 #[.pointer (some ⟨bx, 0, none⟩), .int .i64 a, .int .i64 d, rv, .int .i64 op] w fun e w' => e = .returned (.int .i64 (endPos all (ahead (talkS part) (f + 1) st (all.drop pos)))) ∧ Below w.heap.size w w' := by
  have HX := hide hx
  have HR := hide hr
  have HO := hide ok
  have HL := hide hlen
  have HST := hide hst
  have HNIL := hide hnil
  obtain ⟨i0, hi, hz0, hz1, hz2⟩ := info_parts Try.infoS
  have HI := hide (And.intro hi (And.intro hz0 (And.intro hz1 hz2)))
  obtain ⟨rao, rcap, rfl, rc1, rc2, -⟩ := hr
  subst ha hd hop
  obtain ⟨xao, xcap, x0, x1, x2, x3, x4⟩ := hx
  obtain ⟨b, o, rfl, hrow⟩ := x4 (by intro h; simp [h] at hpl)
  have hnode := hrow.get pos hpl
  have HDROP := hide (show all.drop pos = ⟨2, name, peer, many, sort⟩ :: all.drop (pos + 1) by rw [← hn]; exact drop_cons hpl)
  have HN1 := hide (show Nd.ok ⟨2, name, peer, many, sort⟩ by rw [← hn]; exact HO.out _ (List.getElem_mem hpl))
  have HPN := hide (pos_next hpl)
  rw [hn] at hnode
  obtain ⟨c0, c1, c2, c3, c4⟩ := hnode
  dsimp only at c0 c1 c2 c3 c4
  have hbw : b < w.heap.size := World.block_lt_of_cell? w _ c0
  have hbx : bx < w.heap.size := World.block_lt_of_cell? w _ x0
  have HXA : Hid (∀ ob, (w.alloc ob).cell? ⟨bx, 1, none⟩ = some (.bool part)) := hide (fun ob => ((alloc1 w ob).cell (p := ⟨bx, 1, none⟩) hbx).trans x1)
  have hp2 : decide ((all.length : Int) ≤ (pos : Int)) = false := decide_eq_false (by omega)
  have hdl : st.length ≤ 10 := by omega
  have HOL := hide (open_le st)
  have ho2 : openOf st ≤ (recsOf st).length := open_le st
  have hrl : (recsOf st).length ≤ 10 := by have := recs_len st; omega
  clear hrow hn ok hlen hst x4 hi hz0 hz1 hz2 hnil
  have HF := hide hih
  have HWI := hide (within_eq st name)
  have HRE := hide (show recsOf (⟨2, name, peer, many, sort⟩ :: st) = recsOf st ++ [name] from rfl)
  have HYES := hide hyes
  have HWO : Hid (wordB name = true) := hide (by have := HYES.out; simp [recB] at this; exact this.1.2)
  have HAM : Hid (hasB (recsOf st) name = false) := hide (by have := HYES.out; rw [HWI.out] at this; simp at this; exact this.2)
  have q123 : peer.toList = [] ∧ many = 0 ∧ sort = 0 := by have := HYES.out; simp [recB] at this; exact ⟨this.1.1.1.1, this.1.1.1.2, this.1.1.2⟩
  obtain ⟨q1, q2, q3⟩ := q123
  have HSK : Hid (StOk (⟨2, name, peer, many, sort⟩ :: st)) := hide ⟨.inr ⟨rfl, HAM.out⟩, HST.out⟩
  have HSL : Hid ((⟨2, name, peer, many, sort⟩ :: st).length + f = 10) := hide (by have := HL.out; simp; omega)
  have hd2 : decide ((st.length : Int) + 1 ≤ 10) = true := decide_eq_true (by have := HL.out; omega)
  clear hih hyes
  have HRN := hide hrn
  have HRV := hide (HNIL.out hrn)
  obtain ⟨hr1, hr2, hr3⟩ : rao = none ∧ (recsOf st).length = 0 ∧ rcap = 0 := by have := HRV.out; simpa using this
  subst hr1 hr3
  have HL0 := hide hr2
  clear hr2 hrn
  go_enter Try.func66, Try.ntmps66
  go_wp2_with (first | (go_at_call 73; refine (s_name name _ HN1.out.1).mono ?_; rintro e w1 ⟨rfl, rfl⟩; rw [HWO.out]) | (go_at_call 69; refine (s_among (recsOf st) name _ _ (HR.out.carry (by repeat (first | exact alloc1 _ _ | exact Below.refl _ _ | refine Below.drew ?_)))).mono ?_; rintro e w1 ⟨rfl, rfl⟩; rw [HAM.out]))
  go_region_law (first | (refine step_append_none rfl (.tmp 105) (.tmp 106) 68 rfl w.heap.size 9 i0 1 Try.underlying68 HI.out.1 (.slice (some ⟨w.heap.size + 1, 0, none⟩) 0 0) 0 [] rfl (own_empty _ _ _ (w.heap.size + 1) (by omega) (by first | exact heap_new _ _ _ (by simp) | exact (heap_old _ _ _ (by simp)).trans (heap_new _ _ _ (by simp)))) (by simp [Act.eval, HL0.out]) ?_) | (refine step_append_none rfl (.tmp 105) (.tmp 106) 68 rfl w.heap.size 9 i0 1 Try.underlying68 HI.out.1 (.slice (some ⟨w.heap.size + 1 + 1, 0, none⟩) 0 0) 0 [] rfl (own_empty _ _ _ (w.heap.size + 1 + 1) (by omega) (by first | exact heap_new _ _ _ (by simp) | exact (heap_old _ _ _ (by simp)).trans (heap_new _ _ _ (by simp)))) (by simp [Act.eval, HL0.out]) ?_) | (refine step_append_none rfl (.tmp 105) (.tmp 106) 68 rfl w.heap.size 9 i0 1 Try.underlying68 HI.out.1 (.slice (some ⟨w.heap.size + 2, 0, none⟩) 0 0) 0 [] rfl (own_empty _ _ _ (w.heap.size + 2) (by omega) (by first | exact heap_new _ _ _ (by simp) | exact (heap_old _ _ _ (by simp)).trans (heap_new _ _ _ (by simp)))) (by simp [Act.eval, HL0.out]) ?_) | (refine step_append_own rfl (.tmp 107) (.tmp 110) 68 rfl w.heap.size 9 i0 (.string ByteArray.empty) 1 16 Try.underlying68 HI.out.1 HI.out.2.1 HI.out.2.2.1 HI.out.2.2.2 rfl (by decide) (.slice (some ⟨w.heap.size + 1, 0, none⟩) 0 0) 0 [] rfl (own_empty _ _ _ (w.heap.size + 1) (by omega) (by first | exact heap_new _ _ _ (by simp) | exact (heap_old _ _ _ (by simp)).trans (heap_new _ _ _ (by simp)))) ⟨w.heap.size + 1 + 1, 0, none⟩ 1 1 [.string name] rfl rfl (one_new (by first | exact cell_new _ _ _ _ (by simp) | exact (cell_old _ _ _ (by simp)).trans (cell_new _ _ _ _ (by simp)))) (one_cell _) (by unfold maxLen; omega) (by omega) (by first | omega | (simp; done) | (simp; omega)) ?_; intro v2 w2 hown2 hgrow2; have HTX2 : Hid (TextsAt w2 v2 (recsOf st ++ [name])) := hide (by rw [HRN.out]; exact texts_own (ls := [] ++ [name]) hown2 (by simp)); have HBW2 : Hid (Below w.heap.size w w2) := hide (Below.grown (by repeat (first | exact Below.refl _ _ | exact alloc1 _ _ | exact HBW1.out | refine Below.drew ?_ | refine Below.alloc ?_ (by first | omega | (simp; done) | (simp; omega)) _)) hgrow2 (by first | omega | (simp; done) | (simp; omega)) (by intro k hk; simp [Value.ownBlock] at hk; omega)); clear hown2 hgrow2) | (refine step_append_own rfl (.tmp 107) (.tmp 110) 68 rfl w.heap.size 9 i0 (.string ByteArray.empty) 1 16 Try.underlying68 HI.out.1 HI.out.2.1 HI.out.2.2.1 HI.out.2.2.2 rfl (by decide) (.slice (some ⟨w.heap.size + 1, 0, none⟩) 0 0) 0 [] rfl (own_empty _ _ _ (w.heap.size + 1) (by omega) (by first | exact heap_new _ _ _ (by simp) | exact (heap_old _ _ _ (by simp)).trans (heap_new _ _ _ (by simp)))) ⟨w.heap.size + 2, 0, none⟩ 1 1 [.string name] rfl rfl (one_new (by first | exact cell_new _ _ _ _ (by simp) | exact (cell_old _ _ _ (by simp)).trans (cell_new _ _ _ _ (by simp)))) (one_cell _) (by unfold maxLen; omega) (by omega) (by first | omega | (simp; done) | (simp; omega)) ?_; intro v2 w2 hown2 hgrow2; have HTX2 : Hid (TextsAt w2 v2 (recsOf st ++ [name])) := hide (by rw [HRN.out]; exact texts_own (ls := [] ++ [name]) hown2 (by simp)); have HBW2 : Hid (Below w.heap.size w w2) := hide (Below.grown (by repeat (first | exact Below.refl _ _ | exact alloc1 _ _ | exact HBW1.out | refine Below.drew ?_ | refine Below.alloc ?_ (by first | omega | (simp; done) | (simp; omega)) _)) hgrow2 (by first | omega | (simp; done) | (simp; omega)) (by intro k hk; simp [Value.ownBlock] at hk; omega)); clear hown2 hgrow2) | (refine step_append_own rfl (.tmp 107) (.tmp 110) 68 rfl w.heap.size 9 i0 (.string ByteArray.empty) 1 16 Try.underlying68 HI.out.1 HI.out.2.1 HI.out.2.2.1 HI.out.2.2.2 rfl (by decide) (.slice (some ⟨w.heap.size + 1 + 1, 0, none⟩) 0 0) 0 [] rfl (own_empty _ _ _ (w.heap.size + 1 + 1) (by omega) (by first | exact heap_new _ _ _ (by simp) | exact (heap_old _ _ _ (by simp)).trans (heap_new _ _ _ (by simp)))) ⟨w.heap.size + 1, 0, none⟩ 1 1 [.string name] rfl rfl (one_new (by first | exact cell_new _ _ _ _ (by simp) | exact (cell_old _ _ _ (by simp)).trans (cell_new _ _ _ _ (by simp)))) (one_cell _) (by unfold maxLen; omega) (by omega) (by first | omega | (simp; done) | (simp; omega)) ?_; intro v2 w2 hown2 hgrow2; have HTX2 : Hid (TextsAt w2 v2 (recsOf st ++ [name])) := hide (by rw [HRN.out]; exact texts_own (ls := [] ++ [name]) hown2 (by simp)); have HBW2 : Hid (Below w.heap.size w w2) := hide (Below.grown (by repeat (first | exact Below.refl _ _ | exact alloc1 _ _ | exact HBW1.out | refine Below.drew ?_ | refine Below.alloc ?_ (by first | omega | (simp; done) | (simp; omega)) _)) hgrow2 (by first | omega | (simp; done) | (simp; omega)) (by intro k hk; simp [Value.ownBlock] at hk; omega)); clear hown2 hgrow2) | (refine step_append_own rfl (.tmp 107) (.tmp 110) 68 rfl w.heap.size 9 i0 (.string ByteArray.empty) 1 16 Try.underlying68 HI.out.1 HI.out.2.1 HI.out.2.2.1 HI.out.2.2.2 rfl (by decide) (.slice (some ⟨w.heap.size + 2, 0, none⟩) 0 0) 0 [] rfl (own_empty _ _ _ (w.heap.size + 2) (by omega) (by first | exact heap_new _ _ _ (by simp) | exact (heap_old _ _ _ (by simp)).trans (heap_new _ _ _ (by simp)))) ⟨w.heap.size + 1, 0, none⟩ 1 1 [.string name] rfl rfl (one_new (by first | exact cell_new _ _ _ _ (by simp) | exact (cell_old _ _ _ (by simp)).trans (cell_new _ _ _ _ (by simp)))) (one_cell _) (by unfold maxLen; omega) (by omega) (by first | omega | (simp; done) | (simp; omega)) ?_; intro v2 w2 hown2 hgrow2; have HTX2 : Hid (TextsAt w2 v2 (recsOf st ++ [name])) := hide (by rw [HRN.out]; exact texts_own (ls := [] ++ [name]) hown2 (by simp)); have HBW2 : Hid (Below w.heap.size w w2) := hide (Below.grown (by repeat (first | exact Below.refl _ _ | exact alloc1 _ _ | exact HBW1.out | refine Below.drew ?_ | refine Below.alloc ?_ (by first | omega | (simp; done) | (simp; omega)) _)) hgrow2 (by first | omega | (simp; done) | (simp; omega)) (by intro k hk; simp [Value.ownBlock] at hk; omega)); clear hown2 hgrow2) | (go_simp; go_at_call 66; refine (HF.out (⟨2, name, peer, many, sort⟩ :: st) all (pos + 1) bx _ _ _ _ _ HSL.out HSK.out HO.out (by rw [wrap_i _ (by omega) (by omega)]; omega) (by omega) (by rw [wrap_i _ (by omega) (by omega)]; simp) rfl (HX.out.carry HBW2.out) (by rw [HRE.out]; exact HTX2.out) (by rw [HRE.out]; intro h; simp at h)).mono ?_; rintro e w3 ⟨rfl, hb3⟩; have HB3 := hide hb3; clear hb3))
  go_wp2_with fail
  all_goals
    go_ret
    refine ⟨ret_int ?_, HBW2.out.trans (HB3.out.mono HBW2.out.size)⟩
    rw [HDROP.out, ahead_2 rfl, if_pos HYES.out]
    simp only [q2, q3]
end Go.Proofs.Ytlbcnmcfljaijaa
namespace Go.Proofs.Ytlbcnmcfljaijaa
open Go.RowKit
attribute [local go_sem ↓] Go.wp_at_zero Go.wp_at_succ

set_option maxRecDepth 100000 in
set_option maxHeartbeats 1000000 in
theorem s_l04acts (m : Mach) (s : Int) (v : Value) (w : World) (hv : MachAt w v m) (h0 : 0 ≤ s) (h1 : s < (m.states.length : Int)) (h80 : m.edges.length ≤ 80) :
    Calls Try.prog 46 #[v, .int .i64 s] w fun e w' => ∃ v', e = .returned v' ∧ RActOwn w' w.heap.size v' (actsV m s) ∧ Below w.heap.size w w' := by
  obtain ⟨i0, hi, hz0, hz1, hz2⟩ := info_parts Try.infoAct
  have HI := hide (And.intro hi (And.intro hz0 (And.intro hz1 hz2)))
  clear hi hz0 hz1 hz2
  obtain ⟨sv, ev, rfl, hs, he⟩ := hv
  have hsl := hs.lenm
  obtain ⟨sa, sc, rfl, hs1, hs2, hs3⟩ := hs
  obtain ⟨ea, ec, rfl, he1, he2, he3⟩ := he
  obtain ⟨bs, os, rfl, hbsB, hsrow⟩ := hs3 (by intro h; rw [h] at h1; simp at h1; omega)
  have hlt0 : s.toNat < m.states.length := by omega
  have hst := hsrow.get s.toNat hlt0
  obtain ⟨x, hx⟩ : ∃ x, x = m.states[s.toNat] := ⟨_, rfl⟩
  have HX : Hid (stAt m s = x) := hide (by rw [stAt, List.getElem?_eq_getElem hlt0, hx]; rfl)
  rw [← hx] at hst
  obtain ⟨c0, c1⟩ := hst
  have HER := hide he3
  clear hx hsrow he3
  go_enter Try.func46, Try.ntmps46
  go_wp2_with fail
  go_loopw [5, 7] (fun out i wr => ∃ k : Nat, k ≤ m.edges.length ∧ i = .int .i64 k ∧ RActOwn wr (w.heap.size + 1) out (actsK m s k) ∧ (∀ b ∈ vblocks out, b ≠ w.heap.size + 2) ∧ Below (w.heap.size + 1) (w.alloc (.cells #[.slice (some ⟨bs, os, none⟩) m.states.length sc, .slice ea m.edges.length ec, .int .i64 m.start] 26)) wr ∧ w.heap.size + 2 < wr.heap.size ∧ wr.cell? ⟨w.heap.size + 2, 0, none⟩ = some (.int .i64 x.kind) ∧ wr.cell? ⟨w.heap.size + 2, 1, none⟩ = some (.string x.peer)) (fun _ i _ => m.edges.length - (intOf i).toNat)
  case atStart =>
    refine ⟨0, Nat.zero_le _, rfl, ?_, ?_, ?_, ?_, ?_, ?_⟩
    · exact owns_empty _ _ _ _ (w.heap.size + 1) (Nat.le_refl _) (by rw [mheap_old _ _ _ (by simp), mheap_new _ _ _ (by simp)])
    · intro b hb
      simp [vblocks, cellBlocks] at hb
      omega
    · exact ((Below.refl _ _).alloc (by simp) _).alloc (by simp) _
    · simp
    · exact c3_2 _ _ _ _ _ _ _ rfl
    · exact c3_2 _ _ _ _ _ _ _ rfl
  case round =>
    obtain ⟨k, hk, rfl, hown, hnb, hbel, hsz, g0, g1⟩ := hrel
    have HOWN := hide hown
    have HNB := hide hnb
    have HBEL := hide hbel
    have b0 : wr.cell? ⟨w.heap.size, 0, none⟩ = some (.slice (some ⟨bs, os, none⟩) m.states.length sc) := (hbel.cell (p := ⟨w.heap.size, 0, none⟩) (by simp)).trans (by simp)
    have b1 : wr.cell? ⟨w.heap.size, 1, none⟩ = some (.slice ea m.edges.length ec) := (hbel.cell (p := ⟨w.heap.size, 1, none⟩) (by simp)).trans (by simp)
    have HW : Hid (Below w.heap.size w wr) := hide ((malloc1 _ _).trans (hbel.mono (by omega)))
    obtain ⟨p, cp, rfl⟩ := owns_shape hown
    have hkl := actsK_len m s k
    clear hown hnb hbel
    by_cases hlt : k < m.edges.length
    · obtain ⟨b, o, rfl, hbB, hrow⟩ := HER.out (by intro h; simp [h] at hlt)
      have hnode := (hrow.get k hlt).carry hbB HW.out
      obtain ⟨e1, he1'⟩ : ∃ e1, e1 = m.edges[k] := ⟨_, rfl⟩
      rw [← he1'] at hnode
      obtain ⟨d0, d1, d2, d3⟩ := hnode
      obtain ⟨q, hq⟩ : ∃ q, (e1.src == s) = q := ⟨_, rfl⟩
      have HNO : Hid (q = false → actsK m s (k + 1) = actsK m s k) := hide (fun h => actsK_no hlt (by rw [← he1', hq, h]))
      have HYES : Hid (q = true → actsK m s (k + 1) = actsK m s k ++ [actE m s e1]) := hide (fun h => by rw [actsK_yes hlt (by rw [← he1', hq, h]), ← he1'])
      clear he1' hrow
      cases q
      · go_wp2_with fail
        go_roundw
        case rel =>
          exact ⟨k + 1, hlt, by go_num, by rw [HNO.out rfl]; exact HOWN.out.below (malloc1 _ _), HNB.out, HBEL.out.alloc (by omega) _, by simp; omega, ((malloc1 wr _).cell (p := ⟨w.heap.size + 2, 0, none⟩) hsz).trans g0, ((malloc1 wr _).cell (p := ⟨w.heap.size + 2, 1, none⟩) hsz).trans g1⟩
        case measure => simp [intOf]; omega
      · go_wp2_with (at_builtin; refine wpList_append_own_at _ rfl (.tmp 31) (.tmp 41) 27 rfl (w.heap.size + 1) 34 i0 (.agg #[.int .i64 0, .string ByteArray.empty, .string ByteArray.empty, .int .i64 0]) 4 48 Try.underlying27 HI.out.1 HI.out.2.1 HI.out.2.2.1 HI.out.2.2.2 rfl (by decide) (.slice p (actsK m s k).length cp) (actsK m s k).length ((actsK m s k).flatMap RAct.cells) rfl (HOWN.out.below (balloc2 _ _ _)) ⟨wr.heap.size + 1, 0, none⟩ 1 1 (RAct.mk x.kind x.peer e1.label e1.sort).cells rfl rfl (fun j u hj => new_row2 _ _ _ _ j u hj) (RAct.cells_one _) (by unfold maxLen; omega) (by omega) (by simp; omega) ?_; intro v2 w2 hown2 hgr2 _ hat2; have HOWN2 := hide hown2; have HGR2 := hide hgr2; have HAT2 := hide hat2; clear hown2 hgr2 hat2)
        go_roundw
        case rel =>
          have hA : Apart wr w2 (vblocks (.slice p (actsK m s k).length cp)) := by
            have := (below_apart (balloc2 wr _ _)).trans (grownBy_apart HGR2.out)
            rwa [List.nil_append] at this
          have hlo : ∀ b ∈ vblocks (.slice p (actsK m s k).length cp), w.heap.size + 1 ≤ b := HOWN.out.fresh.lo
          have hne : ∀ j u, wr.cell? ⟨w.heap.size + 2, j, none⟩ = some u → w2.cell? ⟨w.heap.size + 2, j, none⟩ = some u := fun j u hu =>
            (World.cell?_of_block (a := ⟨w.heap.size + 2, j, none⟩) (hA.block _ hsz (fun hm => HNB.out _ hm rfl))).trans hu
          refine ⟨k + 1, hlt, by go_num, ?_, ?_, ?_, Nat.lt_of_lt_of_le hsz hA.size, hne 0 _ g0, hne 1 _ g1⟩
          · rw [HYES.out rfl, actE, HX.out]
            exact RActOwn.snoc HOWN2.out
          · intro b hb
            have hv := owns_shape HOWN2.out
            obtain ⟨p2, c2, hv⟩ := hv
            have hb2 := (own_blocks hv).2 hb
            rcases HAT2.out with h | h
            · rw [h] at hb2
              exact HNB.out b ((own_blocks rfl).1 hb2)
            · rw [h] at hb2
              simp at hb2
              omega
          · exact HBEL.out.trans (hA.below (by omega) hlo)
        case measure => simp [intOf]; omega
    · go_wp2_with fail
      go_ret
      refine ⟨_, rfl, ?_, HW.out⟩
      have := HOWN.out
      rw [actsK_all (by omega)] at this ⊢
      obtain ⟨h1, h2⟩ := this
      exact ⟨h1, h2.imp id (fun ⟨g, c, cur, h3, h4, h5⟩ => ⟨g, c, cur, h3, by omega, h5⟩)⟩
set_option maxRecDepth 100000 in
set_option maxHeartbeats 1000000 in
theorem s_actsOf (m : Mach) (s : Int) (v : Value) (w : World) (hf : m.fit) (hv : MachAt w v m) :
    Calls Try.prog 32 #[v, .int .i64 s] w fun e w' => ∃ v', e = .returned v' ∧ RActOwn w' w.heap.size v' (actsR m s) ∧ Below w.heap.size w w' := by
  have HF := hide hf
  have HV : Hid (∀ W, Below w.heap.size w W → MachAt W v m) := hide (fun W hb => hv.carry hb)
  obtain ⟨sv, ev, rfl, hs, he⟩ := hv
  have hsl := hs.lenm
  obtain ⟨sa, sc, rfl, -⟩ := hs
  obtain ⟨ea, ec, rfl, -⟩ := he
  obtain ⟨q1, hq1⟩ : ∃ q1, machB m = q1 := ⟨_, rfl⟩
  obtain ⟨q2, hq2⟩ : ∃ q2, inB s 0 ((m.states.length : Int) - 1) = q2 := ⟨_, rfl⟩
  have HR : Hid (actsR m s = if q1 && q2 then actsV m s else []) := hide (by rw [actsR, hq1, hq2])
  have HQ1 := hide hq1
  have HQ2 := hide hq2
  clear hq1 hq2 hf
  have HGO : Hid (∀ W A, W = w.alloc A → Below w.heap.size w W ∧ w.heap.size < W.heap.size) := hide (fun W A hW => by rw [hW]; exact ⟨malloc1 _ _, by simp⟩)
  cases q1
  · go_enter Try.func32, Try.ntmps32
    go_wp2_with (refine wp_text_from 5 (fun W hW => ?_); have hne := grown_some W; have f0 := grown_cell (w := W) (b := w.heap.size) (o := 0) (v := .slice sa m.states.length sc) (by rw [hW]; simp); have f1 := grown_cell (w := W) (b := w.heap.size) (o := 1) (v := .slice ea m.edges.length ec) (by rw [hW]; simp); have f2 := grown_cell (w := W) (b := w.heap.size) (o := 2) (v := .int .i64 m.start) (by rw [hW]; simp); have HBW := hide (HGO.out W _ hW); clear hW; (repeat (go_big_quiet_step (first
        | (go_at_call 10; exact grown_more (s_machineRight_at HQ1.out _ _ HF.out ((HV.out _ HBW.out.1).carry (Grown.bel _))))
        | (go_at_call 33; exact grown_more (s_l04state HQ2.out _ _ ((HV.out _ HBW.out.1).carry (Grown.bel _))))))); refine wpQuiet_nil ?_; intro w1 hw1; have b0 := f0 ⟨w1, hw1⟩; have b1 := f1 ⟨w1, hw1⟩; have b2 := f2 ⟨w1, hw1⟩; dsimp only at b0 b1 b2; have HW : Hid (Below w.heap.size w w1) := hide (HBW.out.1.trans (hw1.mono HBW.out.1.size)); have HW1 := hide hw1; clear hw1 hne f0 f1 f2)
    go_ret
    refine ⟨_, rfl, ?_, HW.out.trans ((malloc1 _ _).mono HW.out.size)⟩
    rw [HR.out]
    exact owns_empty _ _ _ _ w1.heap.size HW.out.size (mheap_new _ _ _ rfl)
  · cases q2
    · go_enter Try.func32, Try.ntmps32
      go_wp2_with (refine wp_text_from 5 (fun W hW => ?_); have hne := grown_some W; have f0 := grown_cell (w := W) (b := w.heap.size) (o := 0) (v := .slice sa m.states.length sc) (by rw [hW]; simp); have f1 := grown_cell (w := W) (b := w.heap.size) (o := 1) (v := .slice ea m.edges.length ec) (by rw [hW]; simp); have f2 := grown_cell (w := W) (b := w.heap.size) (o := 2) (v := .int .i64 m.start) (by rw [hW]; simp); have HBW := hide (HGO.out W _ hW); clear hW; (repeat (go_big_quiet_step (first
        | (go_at_call 10; exact grown_more (s_machineRight_at HQ1.out _ _ HF.out ((HV.out _ HBW.out.1).carry (Grown.bel _))))
        | (go_at_call 33; exact grown_more (s_l04state HQ2.out _ _ ((HV.out _ HBW.out.1).carry (Grown.bel _))))))); refine wpQuiet_nil ?_; intro w1 hw1; have b0 := f0 ⟨w1, hw1⟩; have b1 := f1 ⟨w1, hw1⟩; have b2 := f2 ⟨w1, hw1⟩; dsimp only at b0 b1 b2; have HW : Hid (Below w.heap.size w w1) := hide (HBW.out.1.trans (hw1.mono HBW.out.1.size)); have HW1 := hide hw1; clear hw1 hne f0 f1 f2)
      go_ret
      refine ⟨_, rfl, ?_, HW.out.trans ((malloc1 _ _).mono HW.out.size)⟩
      rw [HR.out]
      exact owns_empty _ _ _ _ w1.heap.size HW.out.size (mheap_new _ _ _ rfl)
    · have hb : 0 ≤ s ∧ s < (m.states.length : Int) := by have := HQ2.out; simp [inB] at this; omega
      have H80 := hide (mach_80 HQ1.out)
      have HB := hide hb
      clear hb
      go_enter Try.func32, Try.ntmps32
      go_wp2_with (first | (refine wp_text_from 5 (fun W hW => ?_); have hne := grown_some W; have f0 := grown_cell (w := W) (b := w.heap.size) (o := 0) (v := .slice sa m.states.length sc) (by rw [hW]; simp); have f1 := grown_cell (w := W) (b := w.heap.size) (o := 1) (v := .slice ea m.edges.length ec) (by rw [hW]; simp); have f2 := grown_cell (w := W) (b := w.heap.size) (o := 2) (v := .int .i64 m.start) (by rw [hW]; simp); have HBW := hide (HGO.out W _ hW); clear hW; (repeat (go_big_quiet_step (first
        | (go_at_call 10; exact grown_more (s_machineRight_at HQ1.out _ _ HF.out ((HV.out _ HBW.out.1).carry (Grown.bel _))))
        | (go_at_call 33; exact grown_more (s_l04state HQ2.out _ _ ((HV.out _ HBW.out.1).carry (Grown.bel _))))))); refine wpQuiet_nil ?_; intro w1 hw1; have b0 := f0 ⟨w1, hw1⟩; have b1 := f1 ⟨w1, hw1⟩; have b2 := f2 ⟨w1, hw1⟩; dsimp only at b0 b1 b2; have HW : Hid (Below w.heap.size w w1) := hide (HBW.out.1.trans (hw1.mono HBW.out.1.size)); have HW1 := hide hw1; clear hw1 hne f0 f1 f2) | (go_at_call 46; refine (s_l04acts m s _ _ (HV.out _ HW.out) HB.out.1 HB.out.2 H80.out).mono ?_; rintro e w2 ⟨v2, rfl, ho2, hb2⟩; have HO2 := hide ho2; have HB2 := hide hb2; clear ho2 hb2))
      go_ret
      refine ⟨_, rfl, ?_, HW.out.trans (HB2.out.mono HW.out.size)⟩
      rw [HR.out]
      obtain ⟨h1, h2⟩ := HO2.out
      exact ⟨h1, h2.imp id (fun ⟨g, c, cur, h3, h4, h5⟩ => ⟨g, c, cur, h3, Nat.le_trans HW.out.size h4, h5⟩)⟩
end Go.Proofs.Ytlbcnmcfljaijaa
