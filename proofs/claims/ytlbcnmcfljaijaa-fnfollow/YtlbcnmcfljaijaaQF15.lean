import Derived.Test.YtlbcnmcfljaijaaQF09
import Derived.Test.YtlbcnmcfljaijaaQF13
import Derived.Test.YtlbcnmcfljaijaaQF14
import Derived.Test.YtlbcnmcfljaijaaQF11
import Derived.Test.YtlbcnmcfljaijaaQF06
import Derived.Test.YtlbcnmcfljaijaaQF00
import Derived.Test.YtlbcnmcfljaijaaQF03
import Derived.Test.YtlbcnmcfljaijaaQF12
namespace Go.Proofs.Ytlbcnmcfljaijaa
open Go.RowKit

set_option maxRecDepth 100000 in
set_option maxHeartbeats 1000000 in
theorem end_2m (part : Bool) (f : Nat) (st all : List Nd) (pos bx : Nat) (a d op : Int) (rv : Value) (w : World) (hlen : st.length + (f + 1) = 10) (hst : StOk st) (ok : ∀ n ∈ all, n.ok) (ha : a = pos) (hpl : pos < all.length) (hd : d = (st.length + 1 : Nat)) (hop : op = openOf st) (hx : LookAt w bx part all) (hr : TextsAt w rv (recsOf st)) (hnil : recsOf st = [] → rv = .slice none 0 0) (name peer : ByteArray) (many sort : Int) (hih : EndCalls part f) (hyes : (recB ⟨2, name, peer, many, sort⟩ && !withinB st name) = true) (hrn : recsOf st ≠ []) (hn : all[pos] = ⟨2, name, peer, many, sort⟩) :
    Calls Try.prog 66 #[.pointer (some ⟨bx, 0, none⟩), .int .i64 a, .int .i64 d, rv, .int .i64 op] w fun e w' => e = .returned (.int .i64 (endPos all (ahead (talkS part) (f + 1) st (all.drop pos)))) ∧ Below w.heap.size w w' := by
  have HX := hide hx
  have HR := hide hr
  have HO := hide ok
  have HL := hide hlen
  have HST := hide hst
  have HNIL := hide hnil
  obtain ⟨i0, hi, hz0, hz1, hz2⟩ := info_parts Try.infoS
  have HI := hide (And.intro hi (And.intro hz0 (And.intro hz1 hz2)))
  obtain ⟨rao, rcap, rfl, rc1, rc2, -⟩ := hr
  subst ha hd hop
  obtain ⟨xao, xcap, x0, x1, x2, x3, x4⟩ := hx
  obtain ⟨b, o, rfl, hrow⟩ := x4 (by intro h; simp [h] at hpl)
  have hnode := hrow.get pos hpl
  have HDROP := hide (show all.drop pos = ⟨2, name, peer, many, sort⟩ :: all.drop (pos + 1) by rw [← hn]; exact drop_cons hpl)
  have HN1 := hide (show Nd.ok ⟨2, name, peer, many, sort⟩ by rw [← hn]; exact HO.out _ (List.getElem_mem hpl))
  have HPN := hide (pos_next hpl)
  rw [hn] at hnode
  obtain ⟨c0, c1, c2, c3, c4⟩ := hnode
  dsimp only at c0 c1 c2 c3 c4
  have hbw : b < w.heap.size := World.block_lt_of_cell? w _ c0
  have hbx : bx < w.heap.size := World.block_lt_of_cell? w _ x0
  have HXA : Hid (∀ ob, (w.alloc ob).cell? ⟨bx, 1, none⟩ = some (.bool part)) := hide (fun ob => ((alloc1 w ob).cell (p := ⟨bx, 1, none⟩) hbx).trans x1)
  have hp2 : decide ((all.length : Int) ≤ (pos : Int)) = false := decide_eq_false (by omega)
  have hdl : st.length ≤ 10 := by omega
  have HOL := hide (open_le st)
  have ho2 : openOf st ≤ (recsOf st).length := open_le st
  have hrl : (recsOf st).length ≤ 10 := by have := recs_len st; omega
  clear hrow hn ok hlen hst x4 hi hz0 hz1 hz2 hnil
  have HF := hide hih
  have HWI := hide (within_eq st name)
  have HRE := hide (show recsOf (⟨2, name, peer, many, sort⟩ :: st) = recsOf st ++ [name] from rfl)
  have HYES := hide hyes
  have HWO : Hid (wordB name = true) := hide (by have := HYES.out; simp [recB] at this; exact this.1.2)
  have HAM : Hid (hasB (recsOf st) name = false) := hide (by have := HYES.out; rw [HWI.out] at this; simp at this; exact this.2)
  have q123 : peer.toList = [] ∧ many = 0 ∧ sort = 0 := by have := HYES.out; simp [recB] at this; exact ⟨this.1.1.1.1, this.1.1.1.2, this.1.1.2⟩
  obtain ⟨q1, q2, q3⟩ := q123
  have HSK : Hid (StOk (⟨2, name, peer, many, sort⟩ :: st)) := hide ⟨.inr ⟨rfl, HAM.out⟩, HST.out⟩
  have HSL : Hid ((⟨2, name, peer, many, sort⟩ :: st).length + f = 10) := hide (by have := HL.out; simp; omega)
  have hd2 : decide ((st.length : Int) + 1 ≤ 10) = true := decide_eq_true (by have := HL.out; omega)
  clear hih hyes
  obtain ⟨rao', rcap', hre, hrc, hrc2, hrcell⟩ := HR.out
  obtain ⟨hr1, hr3⟩ : rao = rao' ∧ rcap = rcap' := by simpa using hre
  subst hr1 hr3
  obtain ⟨rb, ro, rfl, hcells⟩ := hrcell hrn
  have HSRC : Hid (∀ W', Below w.heap.size w W' → ∀ j u, ((recsOf st).map Value.string)[j]? = some u → W'.cell? ((⟨rb, ro, none⟩ : Addr).add j) = some u) := hide (fun W' hb j u h => src_cells hcells hb j u h)
  clear hre hrc hrc2 hrcell hcells hrn
  go_enter Try.func66, Try.ntmps66
  go_wp2_with (first | (go_at_call 73; refine (s_name name _ HN1.out.1).mono ?_; rintro e w1 ⟨rfl, rfl⟩; rw [HWO.out]) | (go_at_call 69; refine (s_among (recsOf st) name _ _ (HR.out.carry (by repeat (first | exact alloc1 _ _ | exact Below.refl _ _ | refine Below.drew ?_)))).mono ?_; rintro e w1 ⟨rfl, rfl⟩; rw [HAM.out]))
  go_region_law (first | (refine step_append_with rfl (.tmp 110) undef rfl (.tmp 105) (.tmp 106) 68 rfl w.heap.size 9 i0 (.string ByteArray.empty) 1 16 Try.underlying68 HI.out.1 HI.out.2.1 HI.out.2.2.1 HI.out.2.2.2 rfl (by decide) (.slice (some ⟨w.heap.size + 1, 0, none⟩) 0 0) 0 [] rfl (own_empty _ _ _ (w.heap.size + 1) (by omega) (by first | exact heap_new _ _ _ (by simp) | exact (heap_old _ _ _ (by simp)).trans (heap_new _ _ _ (by simp)))) ⟨rb, ro, none⟩ (recsOf st).length rcap ((recsOf st).map Value.string) rfl (by simp) (HSRC.out _ (by repeat (first | exact Below.refl _ _ | exact alloc1 _ _ | exact HBW1.out | refine Below.drew ?_ | refine Below.alloc ?_ (by first | omega | (simp; done) | (simp; omega)) _))) (strs_cell _) (by unfold maxLen; omega) (by omega) (by first | omega | (simp; done) | (simp; omega)) ?_; intro v1 w1 hown1 hgrow1; simp only [Nat.zero_add, List.nil_append] at hown1; have HOW1 := hide hown1; have HBW1 : Hid (Below w.heap.size w w1) := hide (Below.grown (by repeat (first | exact Below.refl _ _ | exact alloc1 _ _ | exact HBW1.out | refine Below.drew ?_ | refine Below.alloc ?_ (by first | omega | (simp; done) | (simp; omega)) _)) hgrow1 (by first | omega | (simp; done) | (simp; omega)) (by intro k hk; simp [Value.ownBlock] at hk; omega)); have e1 : w1.cell? ⟨w.heap.size, 1, none⟩ = some (.string name) := (grow_cell hgrow1 ⟨w.heap.size, 1, none⟩ (by first | omega | (simp; done) | (simp; omega)) (by first | (simp [Value.ownBlock]; done) | (simp [Value.ownBlock]; omega))).trans (by first | (simp; done) | exact (World.cell?_alloc_past _ _ _ (by first | (simp; done) | (simp; omega))).trans (by simp) | exact (World.cell?_alloc_past _ _ _ (by first | (simp; done) | (simp; omega))).trans ((World.cell?_alloc_past _ _ _ (by first | (simp; done) | (simp; omega))).trans (by simp))); have hz1 : w.heap.size + 2 ≤ w1.heap.size := (by have := hgrow1.size; simp at this; omega); clear hown1 hgrow1) | (refine step_append_with rfl (.tmp 110) (.slice (some ⟨w.heap.size + 1 + 1, 0, none⟩) 1 1) rfl (.tmp 105) (.tmp 106) 68 rfl w.heap.size 9 i0 (.string ByteArray.empty) 1 16 Try.underlying68 HI.out.1 HI.out.2.1 HI.out.2.2.1 HI.out.2.2.2 rfl (by decide) (.slice (some ⟨w.heap.size + 1, 0, none⟩) 0 0) 0 [] rfl (own_empty _ _ _ (w.heap.size + 1) (by omega) (by first | exact heap_new _ _ _ (by simp) | exact (heap_old _ _ _ (by simp)).trans (heap_new _ _ _ (by simp)))) ⟨rb, ro, none⟩ (recsOf st).length rcap ((recsOf st).map Value.string) rfl (by simp) (HSRC.out _ (by repeat (first | exact Below.refl _ _ | exact alloc1 _ _ | exact HBW1.out | refine Below.drew ?_ | refine Below.alloc ?_ (by first | omega | (simp; done) | (simp; omega)) _))) (strs_cell _) (by unfold maxLen; omega) (by omega) (by first | omega | (simp; done) | (simp; omega)) ?_; intro v1 w1 hown1 hgrow1; simp only [Nat.zero_add, List.nil_append] at hown1; have HOW1 := hide hown1; have HBW1 : Hid (Below w.heap.size w w1) := hide (Below.grown (by repeat (first | exact Below.refl _ _ | exact alloc1 _ _ | exact HBW1.out | refine Below.drew ?_ | refine Below.alloc ?_ (by first | omega | (simp; done) | (simp; omega)) _)) hgrow1 (by first | omega | (simp; done) | (simp; omega)) (by intro k hk; simp [Value.ownBlock] at hk; omega)); have e1 : w1.cell? ⟨w.heap.size, 1, none⟩ = some (.string name) := (grow_cell hgrow1 ⟨w.heap.size, 1, none⟩ (by first | omega | (simp; done) | (simp; omega)) (by first | (simp [Value.ownBlock]; done) | (simp [Value.ownBlock]; omega))).trans (by first | (simp; done) | exact (World.cell?_alloc_past _ _ _ (by first | (simp; done) | (simp; omega))).trans (by simp) | exact (World.cell?_alloc_past _ _ _ (by first | (simp; done) | (simp; omega))).trans ((World.cell?_alloc_past _ _ _ (by first | (simp; done) | (simp; omega))).trans (by simp))); have e2 : w1.cell? ⟨w.heap.size + 1 + 1, 0, none⟩ = some (.string name) := (grow_cell hgrow1 ⟨w.heap.size + 1 + 1, 0, none⟩ (by first | omega | (simp; done) | (simp; omega)) (by first | (simp [Value.ownBlock]; done) | (simp [Value.ownBlock]; omega))).trans (by first | exact cell_new _ _ _ _ (by simp) | exact (cell_old _ _ _ (by simp)).trans (cell_new _ _ _ _ (by simp))); have hz1 : w.heap.size + 2 ≤ w1.heap.size := (by have := hgrow1.size; simp at this; omega); clear hown1 hgrow1) | (refine step_append_with rfl (.tmp 110) (.slice (some ⟨w.heap.size + 2, 0, none⟩) 1 1) rfl (.tmp 105) (.tmp 106) 68 rfl w.heap.size 9 i0 (.string ByteArray.empty) 1 16 Try.underlying68 HI.out.1 HI.out.2.1 HI.out.2.2.1 HI.out.2.2.2 rfl (by decide) (.slice (some ⟨w.heap.size + 1, 0, none⟩) 0 0) 0 [] rfl (own_empty _ _ _ (w.heap.size + 1) (by omega) (by first | exact heap_new _ _ _ (by simp) | exact (heap_old _ _ _ (by simp)).trans (heap_new _ _ _ (by simp)))) ⟨rb, ro, none⟩ (recsOf st).length rcap ((recsOf st).map Value.string) rfl (by simp) (HSRC.out _ (by repeat (first | exact Below.refl _ _ | exact alloc1 _ _ | exact HBW1.out | refine Below.drew ?_ | refine Below.alloc ?_ (by first | omega | (simp; done) | (simp; omega)) _))) (strs_cell _) (by unfold maxLen; omega) (by omega) (by first | omega | (simp; done) | (simp; omega)) ?_; intro v1 w1 hown1 hgrow1; simp only [Nat.zero_add, List.nil_append] at hown1; have HOW1 := hide hown1; have HBW1 : Hid (Below w.heap.size w w1) := hide (Below.grown (by repeat (first | exact Below.refl _ _ | exact alloc1 _ _ | exact HBW1.out | refine Below.drew ?_ | refine Below.alloc ?_ (by first | omega | (simp; done) | (simp; omega)) _)) hgrow1 (by first | omega | (simp; done) | (simp; omega)) (by intro k hk; simp [Value.ownBlock] at hk; omega)); have e1 : w1.cell? ⟨w.heap.size, 1, none⟩ = some (.string name) := (grow_cell hgrow1 ⟨w.heap.size, 1, none⟩ (by first | omega | (simp; done) | (simp; omega)) (by first | (simp [Value.ownBlock]; done) | (simp [Value.ownBlock]; omega))).trans (by first | (simp; done) | exact (World.cell?_alloc_past _ _ _ (by first | (simp; done) | (simp; omega))).trans (by simp) | exact (World.cell?_alloc_past _ _ _ (by first | (simp; done) | (simp; omega))).trans ((World.cell?_alloc_past _ _ _ (by first | (simp; done) | (simp; omega))).trans (by simp))); have e2 : w1.cell? ⟨w.heap.size + 2, 0, none⟩ = some (.string name) := (grow_cell hgrow1 ⟨w.heap.size + 2, 0, none⟩ (by first | omega | (simp; done) | (simp; omega)) (by first | (simp [Value.ownBlock]; done) | (simp [Value.ownBlock]; omega))).trans (by first | exact cell_new _ _ _ _ (by simp) | exact (cell_old _ _ _ (by simp)).trans (cell_new _ _ _ _ (by simp))); have hz1 : w.heap.size + 2 ≤ w1.heap.size := (by have := hgrow1.size; simp at this; omega); clear hown1 hgrow1) | (refine step_append_with rfl (.tmp 110) (.slice (some ⟨w.heap.size + 1, 0, none⟩) 1 1) rfl (.tmp 105) (.tmp 106) 68 rfl w.heap.size 9 i0 (.string ByteArray.empty) 1 16 Try.underlying68 HI.out.1 HI.out.2.1 HI.out.2.2.1 HI.out.2.2.2 rfl (by decide) (.slice (some ⟨w.heap.size + 1 + 1, 0, none⟩) 0 0) 0 [] rfl (own_empty _ _ _ (w.heap.size + 1 + 1) (by omega) (by first | exact heap_new _ _ _ (by simp) | exact (heap_old _ _ _ (by simp)).trans (heap_new _ _ _ (by simp)))) ⟨rb, ro, none⟩ (recsOf st).length rcap ((recsOf st).map Value.string) rfl (by simp) (HSRC.out _ (by repeat (first | exact Below.refl _ _ | exact alloc1 _ _ | exact HBW1.out | refine Below.drew ?_ | refine Below.alloc ?_ (by first | omega | (simp; done) | (simp; omega)) _))) (strs_cell _) (by unfold maxLen; omega) (by omega) (by first | omega | (simp; done) | (simp; omega)) ?_; intro v1 w1 hown1 hgrow1; simp only [Nat.zero_add, List.nil_append] at hown1; have HOW1 := hide hown1; have HBW1 : Hid (Below w.heap.size w w1) := hide (Below.grown (by repeat (first | exact Below.refl _ _ | exact alloc1 _ _ | exact HBW1.out | refine Below.drew ?_ | refine Below.alloc ?_ (by first | omega | (simp; done) | (simp; omega)) _)) hgrow1 (by first | omega | (simp; done) | (simp; omega)) (by intro k hk; simp [Value.ownBlock] at hk; omega)); have e1 : w1.cell? ⟨w.heap.size, 1, none⟩ = some (.string name) := (grow_cell hgrow1 ⟨w.heap.size, 1, none⟩ (by first | omega | (simp; done) | (simp; omega)) (by first | (simp [Value.ownBlock]; done) | (simp [Value.ownBlock]; omega))).trans (by first | (simp; done) | exact (World.cell?_alloc_past _ _ _ (by first | (simp; done) | (simp; omega))).trans (by simp) | exact (World.cell?_alloc_past _ _ _ (by first | (simp; done) | (simp; omega))).trans ((World.cell?_alloc_past _ _ _ (by first | (simp; done) | (simp; omega))).trans (by simp))); have e2 : w1.cell? ⟨w.heap.size + 1, 0, none⟩ = some (.string name) := (grow_cell hgrow1 ⟨w.heap.size + 1, 0, none⟩ (by first | omega | (simp; done) | (simp; omega)) (by first | (simp [Value.ownBlock]; done) | (simp [Value.ownBlock]; omega))).trans (by first | exact cell_new _ _ _ _ (by simp) | exact (cell_old _ _ _ (by simp)).trans (cell_new _ _ _ _ (by simp))); have hz1 : w.heap.size + 2 ≤ w1.heap.size := (by have := hgrow1.size; simp at this; omega); clear hown1 hgrow1) | (refine step_append_with rfl (.tmp 110) (.slice (some ⟨w.heap.size + 1, 0, none⟩) 1 1) rfl (.tmp 105) (.tmp 106) 68 rfl w.heap.size 9 i0 (.string ByteArray.empty) 1 16 Try.underlying68 HI.out.1 HI.out.2.1 HI.out.2.2.1 HI.out.2.2.2 rfl (by decide) (.slice (some ⟨w.heap.size + 2, 0, none⟩) 0 0) 0 [] rfl (own_empty _ _ _ (w.heap.size + 2) (by omega) (by first | exact heap_new _ _ _ (by simp) | exact (heap_old _ _ _ (by simp)).trans (heap_new _ _ _ (by simp)))) ⟨rb, ro, none⟩ (recsOf st).length rcap ((recsOf st).map Value.string) rfl (by simp) (HSRC.out _ (by repeat (first | exact Below.refl _ _ | exact alloc1 _ _ | exact HBW1.out | refine Below.drew ?_ | refine Below.alloc ?_ (by first | omega | (simp; done) | (simp; omega)) _))) (strs_cell _) (by unfold maxLen; omega) (by omega) (by first | omega | (simp; done) | (simp; omega)) ?_; intro v1 w1 hown1 hgrow1; simp only [Nat.zero_add, List.nil_append] at hown1; have HOW1 := hide hown1; have HBW1 : Hid (Below w.heap.size w w1) := hide (Below.grown (by repeat (first | exact Below.refl _ _ | exact alloc1 _ _ | exact HBW1.out | refine Below.drew ?_ | refine Below.alloc ?_ (by first | omega | (simp; done) | (simp; omega)) _)) hgrow1 (by first | omega | (simp; done) | (simp; omega)) (by intro k hk; simp [Value.ownBlock] at hk; omega)); have e1 : w1.cell? ⟨w.heap.size, 1, none⟩ = some (.string name) := (grow_cell hgrow1 ⟨w.heap.size, 1, none⟩ (by first | omega | (simp; done) | (simp; omega)) (by first | (simp [Value.ownBlock]; done) | (simp [Value.ownBlock]; omega))).trans (by first | (simp; done) | exact (World.cell?_alloc_past _ _ _ (by first | (simp; done) | (simp; omega))).trans (by simp) | exact (World.cell?_alloc_past _ _ _ (by first | (simp; done) | (simp; omega))).trans ((World.cell?_alloc_past _ _ _ (by first | (simp; done) | (simp; omega))).trans (by simp))); have e2 : w1.cell? ⟨w.heap.size + 1, 0, none⟩ = some (.string name) := (grow_cell hgrow1 ⟨w.heap.size + 1, 0, none⟩ (by first | omega | (simp; done) | (simp; omega)) (by first | (simp [Value.ownBlock]; done) | (simp [Value.ownBlock]; omega))).trans (by first | exact cell_new _ _ _ _ (by simp) | exact (cell_old _ _ _ (by simp)).trans (cell_new _ _ _ _ (by simp))); have hz1 : w.heap.size + 2 ≤ w1.heap.size := (by have := hgrow1.size; simp at this; omega); clear hown1 hgrow1) | (refine step_append_own rfl (.tmp 107) (.tmp 110) 68 rfl w.heap.size 9 i0 (.string ByteArray.empty) 1 16 Try.underlying68 HI.out.1 HI.out.2.1 HI.out.2.2.1 HI.out.2.2.2 rfl (by decide) v1 (recsOf st).length ((recsOf st).map Value.string) rfl (HOW1.out.alloc _) ⟨w1.heap.size, 0, none⟩ 1 1 [.string name] rfl rfl (one_new (cell_new _ _ _ _ rfl)) (one_cell _) (by unfold maxLen; omega) (by omega) (by first | omega | (simp; done) | (simp; omega)) ?_; intro v2 w2 hown2 hgrow2; have HTX2 : Hid (TextsAt w2 v2 (recsOf st ++ [name])) := hide (texts_own (ls := recsOf st ++ [name]) (by simpa using hown2) (by simp; omega)); have HBW2 : Hid (Below w.heap.size w w2) := hide (Below.grown (by repeat (first | exact Below.refl _ _ | exact alloc1 _ _ | exact HBW1.out | refine Below.drew ?_ | refine Below.alloc ?_ (by first | omega | (simp; done) | (simp; omega)) _)) hgrow2 (by first | omega | (simp; done) | (simp; omega)) (own_row HOW1.out)); clear hown2 hgrow2) | (refine step_append_own rfl (.tmp 107) (.tmp 110) 68 rfl w.heap.size 9 i0 (.string ByteArray.empty) 1 16 Try.underlying68 HI.out.1 HI.out.2.1 HI.out.2.2.1 HI.out.2.2.2 rfl (by decide) v1 (recsOf st).length ((recsOf st).map Value.string) rfl HOW1.out ⟨w.heap.size + 1, 0, none⟩ 1 1 [.string name] rfl rfl (one_new e2) (one_cell _) (by unfold maxLen; omega) (by omega) (by first | omega | (simp; done) | (simp; omega)) ?_; intro v2 w2 hown2 hgrow2; have HTX2 : Hid (TextsAt w2 v2 (recsOf st ++ [name])) := hide (texts_own (ls := recsOf st ++ [name]) (by simpa using hown2) (by simp; omega)); have HBW2 : Hid (Below w.heap.size w w2) := hide (Below.grown (by repeat (first | exact Below.refl _ _ | exact alloc1 _ _ | exact HBW1.out | refine Below.drew ?_ | refine Below.alloc ?_ (by first | omega | (simp; done) | (simp; omega)) _)) hgrow2 (by first | omega | (simp; done) | (simp; omega)) (own_row HOW1.out)); clear hown2 hgrow2) | (refine step_append_own rfl (.tmp 107) (.tmp 110) 68 rfl w.heap.size 9 i0 (.string ByteArray.empty) 1 16 Try.underlying68 HI.out.1 HI.out.2.1 HI.out.2.2.1 HI.out.2.2.2 rfl (by decide) v1 (recsOf st).length ((recsOf st).map Value.string) rfl HOW1.out ⟨w.heap.size + 1 + 1, 0, none⟩ 1 1 [.string name] rfl rfl (one_new e2) (one_cell _) (by unfold maxLen; omega) (by omega) (by first | omega | (simp; done) | (simp; omega)) ?_; intro v2 w2 hown2 hgrow2; have HTX2 : Hid (TextsAt w2 v2 (recsOf st ++ [name])) := hide (texts_own (ls := recsOf st ++ [name]) (by simpa using hown2) (by simp; omega)); have HBW2 : Hid (Below w.heap.size w w2) := hide (Below.grown (by repeat (first | exact Below.refl _ _ | exact alloc1 _ _ | exact HBW1.out | refine Below.drew ?_ | refine Below.alloc ?_ (by first | omega | (simp; done) | (simp; omega)) _)) hgrow2 (by first | omega | (simp; done) | (simp; omega)) (own_row HOW1.out)); clear hown2 hgrow2) | (refine step_append_own rfl (.tmp 107) (.tmp 110) 68 rfl w.heap.size 9 i0 (.string ByteArray.empty) 1 16 Try.underlying68 HI.out.1 HI.out.2.1 HI.out.2.2.1 HI.out.2.2.2 rfl (by decide) v1 (recsOf st).length ((recsOf st).map Value.string) rfl HOW1.out ⟨w.heap.size + 2, 0, none⟩ 1 1 [.string name] rfl rfl (one_new e2) (one_cell _) (by unfold maxLen; omega) (by omega) (by first | omega | (simp; done) | (simp; omega)) ?_; intro v2 w2 hown2 hgrow2; have HTX2 : Hid (TextsAt w2 v2 (recsOf st ++ [name])) := hide (texts_own (ls := recsOf st ++ [name]) (by simpa using hown2) (by simp; omega)); have HBW2 : Hid (Below w.heap.size w w2) := hide (Below.grown (by repeat (first | exact Below.refl _ _ | exact alloc1 _ _ | exact HBW1.out | refine Below.drew ?_ | refine Below.alloc ?_ (by first | omega | (simp; done) | (simp; omega)) _)) hgrow2 (by first | omega | (simp; done) | (simp; omega)) (own_row HOW1.out)); clear hown2 hgrow2) | (go_simp; go_at_call 66; refine (HF.out (⟨2, name, peer, many, sort⟩ :: st) all (pos + 1) bx _ _ _ _ _ HSL.out HSK.out HO.out (by rw [wrap_i _ (by omega) (by omega)]; omega) (by omega) (by rw [wrap_i _ (by omega) (by omega)]; simp) rfl (HX.out.carry HBW2.out) (by rw [HRE.out]; exact HTX2.out) (by rw [HRE.out]; intro h; simp at h)).mono ?_; rintro e w3 ⟨rfl, hb3⟩; have HB3 := hide hb3; clear hb3))
  go_wp2_with fail
  all_goals
    go_ret
    refine ⟨ret_int ?_, HBW2.out.trans (HB3.out.mono HBW2.out.size)⟩
    rw [HDROP.out, ahead_2 rfl, if_pos HYES.out]
    simp only [q2, q3]
end Go.Proofs.Ytlbcnmcfljaijaa
namespace Go.Proofs.Ytlbcnmcfljaijaa
open Go.RowKit

set_option maxHeartbeats 400000 in
theorem end_past (part : Bool) (f : Nat) (st all : List Nd) (pos bx : Nat) (a d op : Int) (rv : Value) (w : World) (ha : a = pos) (hpl : ¬ pos < all.length) (hx : LookAt w bx part all) (hr : TextsAt w rv (recsOf st)) :
    Calls Try.prog 66 #[.pointer (some ⟨bx, 0, none⟩), .int .i64 a, .int .i64 d, rv, .int .i64 op] w fun e w' => e = .returned (.int .i64 (endPos all (ahead (talkS part) f st (all.drop pos)))) ∧ Below w.heap.size w w' := by
  obtain ⟨rao, rcap, rfl, rc1, rc2, -⟩ := hr
  obtain ⟨xao, xcap, x0, x1, x2, x3, x4⟩ := hx
  subst ha
  have HE := hide (show endPos all (ahead (talkS part) f st (all.drop pos)) = -1 by rw [List.drop_of_length_le (by omega)]; cases f <;> rfl)
  have hp2 : decide ((all.length : Int) ≤ (pos : Int)) = true := decide_eq_true (by omega)
  clear x4
  go_enter Try.func66, Try.ntmps66
  go_wp2_with fail
  go_ret
  exact ⟨ret_int HE.out, Below.refl _ _⟩

theorem end_calls (part : Bool) (f : Nat) : EndCalls part f := by
  induction f with
  | zero =>
    intro st all pos bx a d op rv w hlen hst ok ha hpos hd hop hx hr hnil
    by_cases hpl : pos < all.length
    · cases hn : all[pos] with
      | mk op0 name peer many sort =>
        by_cases o0 : op0 = 0
        · subst o0; exact end_0 part 0 st all pos bx a d op rv w hlen hst ok ha hpl hd hop hx hr hnil name peer many sort hn
        · by_cases o1 : op0 = 1
          · subst o1; exact end_1 part 0 st all pos bx a d op rv w hlen hst ok ha hpl hd hop hx hr hnil name peer many sort hn
          · by_cases o2 : op0 = 2
            · subst o2; exact end_2a part 0 st all pos bx a d op rv w hlen hst ok ha hpl hd hop hx hr hnil name peer many sort (.inl rfl) hn
            · exact end_t part 0 (fun g h => absurd h (by omega)) st all pos bx a d op rv w hlen hst ok ha hpl hd hop hx hr hnil name peer op0 many sort ⟨o0, o1, o2⟩ hn
    · exact end_past part 0 st all pos bx a d op rv w ha hpl hx hr
  | succ f ih =>
    intro st all pos bx a d op rv w hlen hst ok ha hpos hd hop hx hr hnil
    by_cases hpl : pos < all.length
    · cases hn : all[pos] with
      | mk op0 name peer many sort =>
        by_cases o0 : op0 = 0
        · subst o0; exact end_0 part (f + 1) st all pos bx a d op rv w hlen hst ok ha hpl hd hop hx hr hnil name peer many sort hn
        · by_cases o1 : op0 = 1
          · subst o1; exact end_1 part (f + 1) st all pos bx a d op rv w hlen hst ok ha hpl hd hop hx hr hnil name peer many sort hn
          · by_cases o2 : op0 = 2
            · subst o2
              cases hy : (recB ⟨2, name, peer, many, sort⟩ && !withinB st name)
              · exact end_2a part (f + 1) st all pos bx a d op rv w hlen hst ok ha hpl hd hop hx hr hnil name peer many sort (.inr hy) hn
              · by_cases hrn : recsOf st = []
                · exact end_2n part f st all pos bx a d op rv w hlen hst ok ha hpl hd hop hx hr hnil name peer many sort ih hy hrn hn
                · exact end_2m part f st all pos bx a d op rv w hlen hst ok ha hpl hd hop hx hr hnil name peer many sort ih hy hrn hn
            · exact end_t part (f + 1) (fun g h => by cases h; exact ih) st all pos bx a d op rv w hlen hst ok ha hpl hd hop hx hr hnil name peer op0 many sort ⟨o0, o1, o2⟩ hn
    · exact end_past part (f + 1) st all pos bx a d op rv w ha hpl hx hr
end Go.Proofs.Ytlbcnmcfljaijaa
namespace Go.Proofs.Ytlbcnmcfljaijaa
open Go.RowKit

structure Grows (l r : List Nd) (W W' : Wv) : Prop where
  sts : W'.sts.length + r.length ≤ W.sts.length + l.length
  eds : W'.eds.length + r.length ≤ W.eds.length + l.length
end Go.Proofs.Ytlbcnmcfljaijaa
namespace Go.Proofs.Ytlbcnmcfljaijaa
open Go.RowKit Go.Shelf Go.Sort Go.Lib Go.Proofs

end Go.Proofs.Ytlbcnmcfljaijaa
namespace Go.Proofs.Ytlbcnmcfljaijaa
open Go.RowKit
attribute [local go_sem ↓] Go.wp_at_zero Go.wp_at_succ

theorem machine_right_at {q : Bool} {m : Mach} (hq : machB m = q) (v : Value) (w : World) (hf : m.fit) (hv : MachAt w v m) :
    Calls Try.prog 18 #[v] w fun e w' => e = .returned (.bool q) ∧ Below w.heap.size w w' := by subst hq; exact machine_right m v w hf hv
set_option maxRecDepth 100000 in
set_option maxHeartbeats 400000 in
theorem act_of (m : Mach) (x : REdge) (v : Value) (w : World) (hv : MachAt w v m) (h0 : 0 ≤ x.src) (h1 : x.src < (m.states.length : Int)) :
    Calls Try.prog 38 #[v, x.val] w fun e w' => e = .returned (actE m x.src x).val ∧ Below w.heap.size w w' := by
  obtain ⟨sv, ev, rfl, hs, he⟩ := hv
  have hsl := hs.lenm
  obtain ⟨sa, sc, rfl, hs1, hs2, hs3⟩ := hs
  obtain ⟨ea, ec, rfl, -⟩ := he
  obtain ⟨bs, os, rfl, hbsB, hsrow⟩ := hs3 (by intro h; rw [h] at h1; simp at h1; omega)
  have hlt0 : x.src.toNat < m.states.length := by omega
  have hst := hsrow.get x.src.toNat hlt0
  obtain ⟨y, hy⟩ : ∃ y, y = m.states[x.src.toNat] := ⟨_, rfl⟩
  have HX : Hid (actE m x.src x = ⟨y.kind, y.peer, x.label, x.sort⟩) := hide (by rw [actE, stAt, List.getElem?_eq_getElem hlt0, hy]; rfl)
  rw [← hy] at hst
  obtain ⟨c0, c1⟩ := hst
  have hi : (Try.prog.info? 34).map (·.size) = some 4 := by
    obtain ⟨i0, hi, _, hz1, _⟩ := info_parts Try.infoAct
    rw [hi]; simp [hz1]
  have HI := hide hi
  clear hi hy hsrow
  unfold REdge.val
  rw [HX.out]
  have h3 : ∀ A B C, Below w.heap.size w (((w.alloc A).alloc B).alloc C) := fun A B C => ((malloc1 _ _).trans ((malloc1 _ _).mono (by simp))).trans ((malloc1 _ _).mono (by simp; omega))
  have H3 := hide h3
  have r0 : ∀ A B C, (((w.alloc A).alloc B).alloc C).cell? ⟨bs, os + x.src.toNat * 2, none⟩ = some (.int .i64 y.kind) := fun A B C => ((h3 A B C).cell (p := ⟨bs, _, none⟩) hbsB).trans c0
  have r1 : ∀ A B C, (((w.alloc A).alloc B).alloc C).cell? ⟨bs, os + x.src.toNat * 2 + 1, none⟩ = some (.string y.peer) := fun A B C => ((h3 A B C).cell (p := ⟨bs, _, none⟩) hbsB).trans c1
  clear h3
  go_enter Try.func38, Try.ntmps38
  go_wp2_with fail
  refine bodyPost_ret_by (results_cell_row rfl _ _ (w.heap.size + 1 + 1) 34 #[.int .i64 y.kind, .string y.peer, .string x.label, .int .i64 x.sort] (0, 0) _ rfl ?_ Try.underlying34 rfl HI.out) rfl ⟨rfl, (H3.out _ _ _).trans ((malloc1 _ _).mono (H3.out _ _ _).size)⟩
  rw [mheap_old _ _ _ (by simp), mheap_new _ _ _ (by simp)]
end Go.Proofs.Ytlbcnmcfljaijaa
