import Derived.Test.YtmjlblbhakppfaaGreatDoorQP08
import Derived.Test.YtmjlblbhakppfaaGreatDoorQP07
namespace Go.Proofs.YtmjlblbhakppfaaGreatDoor
open Go.RowKit

def stepS (acc : List ByteArray) (n : Nd) : List ByteArray :=
  let a := if n.op == 3 then putS acc n.name else acc
  if n.peer.toList == [] then a else putS a n.peer
def rolesS (ns : List Nd) : List ByteArray := ns.foldl stepS []

theorem put_len (ls : List ByteArray) (t : ByteArray) : (putS ls t).length ≤ ls.length + 1 := by
  rw [putS]
  split
  · omega
  · simp; omega
theorem roles_next {ns : List Nd} {k : Nat} (h : k < ns.length) : (ns.take (k + 1)).foldl stepS [] = stepS ((ns.take k).foldl stepS []) ns[k] := by
  rw [List.take_succ_eq_append_getElem h, List.foldl_append]; rfl
theorem STexts.carry {w w' : World} {v : Value} {ls : List ByteArray} (h : STexts w v ls) (hb : Below w.heap.size w w') : STexts w' v ls := by
  obtain ⟨b, o, cap, h1, h2, h3, h4⟩ := h
  exact ⟨b, o, cap, h1, h2, h3, fun i hi => (hb.cell (p := ⟨b, _, none⟩) (World.block_lt_of_cell? w _ (h4 i hi))).trans (h4 i hi)⟩

set_option maxRecDepth 100000 in
set_option maxHeartbeats 1000000 in
theorem s_roles (ns : List Nd) (v : Value) (w : World) (hv : SlAt w w.heap.size v ns) (hl : ns.length ≤ 40) :
    Calls Tryz.prog 51 #[v] w fun e w' => ∃ v', e = .returned v' ∧ STexts w' v' (rolesS ns) ∧ Below w.heap.size w w' := by
  obtain ⟨ao, cap, rfl, hc, hm, hr⟩ := hv
  have HR := hide hr
  clear hr
  go_enter Tryz.func51, Tryz.ntmps51
  go_wp2_with fail
  go_loopw [3, 4] (fun out i wr => ∃ k : Nat, k ≤ ns.length ∧ i = .int .i64 k ∧ STexts wr out ((ns.take k).foldl stepS []) ∧ ((ns.take k).foldl stepS []).length ≤ 2 * k ∧ Below w.heap.size w wr)
    (fun _ i _ => ns.length - (intOf i).toNat)
  case atStart => exact ⟨0, Nat.zero_le _, rfl, ⟨w.heap.size, 0, 0, rfl, Nat.le_refl _, by unfold maxLen; omega, fun i h => absurd h (by simp)⟩, by simp, alloc1 _ _⟩
  case round =>
    obtain ⟨k, hk, rfl, hst, hsl, hbel⟩ := hrel
    obtain ⟨acc, hacc⟩ : ∃ acc, acc = (ns.take k).foldl stepS [] := ⟨_, rfl⟩
    rw [← hacc] at hst hsl
    have HACC := hide hacc
    have HST := hide hst
    have HBEL := hide hbel
    have hszr := hbel.size
    clear hacc hbel
    obtain ⟨b1, o1, cap1, rfl, hst1⟩ := hst
    clear hst1
    by_cases hlt : k < ns.length
    · obtain ⟨b, o, rfl, hbB, hrow⟩ := HR.out (by intro h; simp [h] at hlt)
      have hnode := (hrow.get k hlt).carry hbB HBEL.out
      obtain ⟨n1, hn1⟩ : ∃ n1, n1 = ns[k] := ⟨_, rfl⟩
      rw [← hn1] at hnode
      have HN := hide (show (ns.take (k + 1)).foldl stepS [] = stepS acc n1 by rw [roles_next hlt, HACC.out, hn1])
      have HND := hide hnode
      clear hn1 hrow
      have hbw : b < wr.heap.size := hnode.lt
      obtain ⟨c0, c1, c2, c3, c4⟩ := hnode
      obtain ⟨op3, hop3⟩ : ∃ op3, (n1.op == 3) = op3 := ⟨_, rfl⟩
      obtain ⟨pe, hpe⟩ : ∃ pe, (n1.peer.toList == []) = pe := ⟨_, rfl⟩
      have HO3 := hide hop3
      have HPE := hide hpe
      cases op3
      · cases pe
        · go_wp2_with (go_at_call 84; refine (s_put acc n1.peer _ _ HST.out (by omega)).mono ?_; rintro e w1 ⟨v1, rfl, hs1, hb1⟩; have HS1 := hide hs1; obtain ⟨b2, o2, cap2, rfl, hs2⟩ := hs1; have HB1 := hide hb1; clear hs2 hb1)
          go_roundw
          case rel =>
            have hst : stepS acc n1 = putS acc n1.peer := by simp [stepS, HO3.out, HPE.out]
            refine ⟨k + 1, by omega, by go_num, by rw [HN.out, hst]; exact HS1.out, by rw [HN.out, hst]; have := put_len acc n1.peer; omega, HBEL.out.trans (HB1.out.mono hszr)⟩
          case measure => simp [intOf]; omega
        · go_wp2_with fail
          go_roundw
          case rel =>
            have hst : stepS acc n1 = acc := by simp [stepS, HO3.out, HPE.out]
            refine ⟨k + 1, by omega, by go_num, by rw [HN.out, hst]; exact HST.out, by rw [HN.out, hst]; omega, HBEL.out⟩
          case measure => simp [intOf]; omega
      · cases pe
        · go_wp2_with (first | (go_at_call_of 84 n1.peer; refine (s_put (putS acc n1.name) n1.peer _ _ HS1.out (by have := put_len acc n1.name; omega)).mono ?_; rintro e w2 ⟨v2, rfl, hs3, hb2⟩; have HS2 := hide hs3; obtain ⟨b3, o3, cap3, rfl, hs4⟩ := hs3; have HB2 := hide hb2; clear hs4 hb2) | (go_at_call_of 84 n1.name; refine (s_put acc n1.name _ _ HST.out (by omega)).mono ?_; rintro e w1 ⟨v1, rfl, hs1, hb1⟩; have HS1 := hide hs1; obtain ⟨b2, o2, cap2, rfl, hs2⟩ := hs1; have hz1 := hb1.size; obtain ⟨d0, d1, d2, d3, d4⟩ := HND.out.carry hbw hb1; have HB1 := hide hb1; clear hs2 hb1))
          go_roundw
          case rel =>
            have hst : stepS acc n1 = putS (putS acc n1.name) n1.peer := by simp [stepS, HO3.out, HPE.out]
            refine ⟨k + 1, by omega, by go_num, by rw [HN.out, hst]; exact HS2.out, by rw [HN.out, hst]; have := put_len acc n1.name; have := put_len (putS acc n1.name) n1.peer; omega, HBEL.out.trans ((HB1.out.mono hszr).trans (HB2.out.mono (by omega)))⟩
          case measure => simp [intOf]; omega
        · go_wp2_with (go_at_call 84; refine (s_put acc n1.name _ _ HST.out (by omega)).mono ?_; rintro e w1 ⟨v1, rfl, hs1, hb1⟩; have HS1 := hide hs1; obtain ⟨b2, o2, cap2, rfl, hs2⟩ := hs1; have hz1 := hb1.size; obtain ⟨d0, d1, d2, d3, d4⟩ := HND.out.carry hbw hb1; have HB1 := hide hb1; clear hs2 hb1)
          go_roundw
          case rel =>
            have hst : stepS acc n1 = putS acc n1.name := by simp [stepS, HO3.out, HPE.out]
            refine ⟨k + 1, by omega, by go_num, by rw [HN.out, hst]; exact HS1.out, by rw [HN.out, hst]; have := put_len acc n1.name; omega, HBEL.out.trans (HB1.out.mono hszr)⟩
          case measure => simp [intOf]; omega
    · go_wp2_with fail
      go_ret
      refine ⟨_, rfl, ?_, HBEL.out⟩
      have := HST.out
      rw [HACC.out, List.take_of_length_le (by omega)] at this
      have e : acc.length = ((ns.take k).foldl stepS []).length := by rw [HACC.out]
      rw [e, List.take_of_length_le (by omega)]
      exact this
end Go.Proofs.YtmjlblbhakppfaaGreatDoor
namespace Go.Proofs.YtmjlblbhakppfaaGreatDoor
open Go.RowKit

set_option maxRecDepth 100000 in
set_option maxHeartbeats 1000000 in
theorem end_2m (part : Bool) (f : Nat) (st all : List Nd) (pos bx : Nat) (a d op : Int) (rv : Value) (w : World) (hlen : st.length + (f + 1) = 10) (hst : StOk st) (ok : ∀ n ∈ all, n.ok) (ha : a = pos) (hpl : pos < all.length) (hd : d = (st.length + 1 : Nat)) (hop : op = openOf st) (hx : LookAt w bx part all) (hr : TextsAt w rv (recsOf st)) (hnil : recsOf st = [] → rv = .slice none 0 0) (name peer : ByteArray) (many sort : Int) (hih : EndCalls part f) (hyes : (recB ⟨2, name, peer, many, sort⟩ && !withinB st name) = true) (hrn : recsOf st ≠ []) (hn : all[pos] = ⟨2, name, peer, many, sort⟩) :
    Calls Tryz.prog 82 #[.pointer (some ⟨bx, 0, none⟩), .int .i64 a, .int .i64 d, rv, .int .i64 op] w fun e w' => e = .returned (.int .i64 (endPos all (ahead (talkS part) (f + 1) st (all.drop pos)))) ∧ Below w.heap.size w w' := by
  have HX := hide hx
  have HR := hide hr
  have HO := hide ok
  have HL := hide hlen
  have HST := hide hst
  have HNIL := hide hnil
  obtain ⟨i0, hi, hz0, hz1, hz2⟩ := info_parts Tryz.infoS
  have HI := hide (And.intro hi (And.intro hz0 (And.intro hz1 hz2)))
  obtain ⟨rao, rcap, rfl, rc1, rc2, -⟩ := hr
  subst ha hd hop
  obtain ⟨xao, xcap, x0, x1, x2, x3, x4⟩ := hx
  obtain ⟨b, o, rfl, hrow⟩ := x4 (by intro h; simp [h] at hpl)
  have hnode := hrow.get pos hpl
  have HDROP := hide (show all.drop pos = ⟨2, name, peer, many, sort⟩ :: all.drop (pos + 1) by rw [← hn]; exact drop_cons hpl)
  have HN1 := hide (show Nd.ok ⟨2, name, peer, many, sort⟩ by rw [← hn]; exact HO.out _ (List.getElem_mem hpl))
  have HPN := hide (pos_next hpl)
  rw [hn] at hnode
  obtain ⟨c0, c1, c2, c3, c4⟩ := hnode
  dsimp only at c0 c1 c2 c3 c4
  have hbw : b < w.heap.size := World.block_lt_of_cell? w _ c0
  have hbx : bx < w.heap.size := World.block_lt_of_cell? w _ x0
  have HXA : Hid (∀ ob, (w.alloc ob).cell? ⟨bx, 1, none⟩ = some (.bool part)) := hide (fun ob => ((alloc1 w ob).cell (p := ⟨bx, 1, none⟩) hbx).trans x1)
  have hp2 : decide ((all.length : Int) ≤ (pos : Int)) = false := decide_eq_false (by omega)
  have hdl : st.length ≤ 10 := by omega
  have HOL := hide (open_le st)
  have ho2 : openOf st ≤ (recsOf st).length := open_le st
  have hrl : (recsOf st).length ≤ 10 := by have := recs_len st; omega
  clear hrow hn ok hlen hst x4 hi hz0 hz1 hz2 hnil
  have HF := hide hih
  have HWI := hide (within_eq st name)
  have HRE := hide (show recsOf (⟨2, name, peer, many, sort⟩ :: st) = recsOf st ++ [name] from rfl)
  have HYES := hide hyes
  have HWO : Hid (wordB name = true) := hide (by have := HYES.out; simp [recB] at this; exact this.1.2)
  have HAM : Hid (hasB (recsOf st) name = false) := hide (by have := HYES.out; rw [HWI.out] at this; simp at this; exact this.2)
  have q123 : peer.toList = [] ∧ many = 0 ∧ sort = 0 := by have := HYES.out; simp [recB] at this; exact ⟨this.1.1.1.1, this.1.1.1.2, this.1.1.2⟩
  obtain ⟨q1, q2, q3⟩ := q123
  have HSK : Hid (StOk (⟨2, name, peer, many, sort⟩ :: st)) := hide ⟨.inr ⟨rfl, HAM.out⟩, HST.out⟩
  have HSL : Hid ((⟨2, name, peer, many, sort⟩ :: st).length + f = 10) := hide (by have := HL.out; simp; omega)
  have hd2 : decide ((st.length : Int) + 1 ≤ 10) = true := decide_eq_true (by have := HL.out; omega)
  clear hih hyes
  obtain ⟨rao', rcap', hre, hrc, hrc2, hrcell⟩ := HR.out
  obtain ⟨hr1, hr3⟩ : rao = rao' ∧ rcap = rcap' := by simpa using hre
  subst hr1 hr3
  obtain ⟨rb, ro, rfl, hcells⟩ := hrcell hrn
  have HSRC : Hid (∀ W', Below w.heap.size w W' → ∀ j u, ((recsOf st).map Value.string)[j]? = some u → W'.cell? ((⟨rb, ro, none⟩ : Addr).add j) = some u) := hide (fun W' hb j u h => src_cells hcells hb j u h)
  clear hre hrc hrc2 hrcell hcells hrn
  go_enter Tryz.func82, Tryz.ntmps82
  go_wp2_with (first | (go_at_call 118; refine (s_name name _ HN1.out.1).mono ?_; rintro e w1 ⟨rfl, rfl⟩; rw [HWO.out]) | (go_at_call 53; refine (s_among (recsOf st) name _ _ (HR.out.carry (by repeat (first | exact alloc1 _ _ | exact Below.refl _ _ | refine Below.drew ?_)))).mono ?_; rintro e w1 ⟨rfl, rfl⟩; rw [HAM.out]))
  go_region_law (first | (refine step_append_with rfl (.tmp 110) undef rfl (.tmp 105) (.tmp 106) 30 rfl w.heap.size 9 i0 (.string ByteArray.empty) 1 16 Tryz.underlying30 HI.out.1 HI.out.2.1 HI.out.2.2.1 HI.out.2.2.2 rfl (by decide) (.slice (some ⟨w.heap.size + 1, 0, none⟩) 0 0) 0 [] rfl (own_empty _ _ _ (w.heap.size + 1) (by omega) (by first | exact heap_new _ _ _ (by simp) | exact (heap_old _ _ _ (by simp)).trans (heap_new _ _ _ (by simp)))) ⟨rb, ro, none⟩ (recsOf st).length rcap ((recsOf st).map Value.string) rfl (by simp) (HSRC.out _ (by repeat (first | exact Below.refl _ _ | exact alloc1 _ _ | exact HBW1.out | refine Below.drew ?_ | refine Below.alloc ?_ (by first | omega | (simp; done) | (simp; omega)) _))) (strs_cell _) (by unfold maxLen; omega) (by omega) (by first | omega | (simp; done) | (simp; omega)) ?_; intro v1 w1 hown1 hgrow1; simp only [Nat.zero_add, List.nil_append] at hown1; have HOW1 := hide hown1; have HBW1 : Hid (Below w.heap.size w w1) := hide (Below.grown (by repeat (first | exact Below.refl _ _ | exact alloc1 _ _ | exact HBW1.out | refine Below.drew ?_ | refine Below.alloc ?_ (by first | omega | (simp; done) | (simp; omega)) _)) hgrow1 (by first | omega | (simp; done) | (simp; omega)) (by intro k hk; simp [Value.ownBlock] at hk; omega)); have e1 : w1.cell? ⟨w.heap.size, 1, none⟩ = some (.string name) := (grow_cell hgrow1 ⟨w.heap.size, 1, none⟩ (by first | omega | (simp; done) | (simp; omega)) (by first | (simp [Value.ownBlock]; done) | (simp [Value.ownBlock]; omega))).trans (by first | (simp; done) | exact (World.cell?_alloc_past _ _ _ (by first | (simp; done) | (simp; omega))).trans (by simp) | exact (World.cell?_alloc_past _ _ _ (by first | (simp; done) | (simp; omega))).trans ((World.cell?_alloc_past _ _ _ (by first | (simp; done) | (simp; omega))).trans (by simp))); have hz1 : w.heap.size + 2 ≤ w1.heap.size := (by have := hgrow1.size; simp at this; omega); clear hown1 hgrow1) | (refine step_append_with rfl (.tmp 110) (.slice (some ⟨w.heap.size + 1 + 1, 0, none⟩) 1 1) rfl (.tmp 105) (.tmp 106) 30 rfl w.heap.size 9 i0 (.string ByteArray.empty) 1 16 Tryz.underlying30 HI.out.1 HI.out.2.1 HI.out.2.2.1 HI.out.2.2.2 rfl (by decide) (.slice (some ⟨w.heap.size + 1, 0, none⟩) 0 0) 0 [] rfl (own_empty _ _ _ (w.heap.size + 1) (by omega) (by first | exact heap_new _ _ _ (by simp) | exact (heap_old _ _ _ (by simp)).trans (heap_new _ _ _ (by simp)))) ⟨rb, ro, none⟩ (recsOf st).length rcap ((recsOf st).map Value.string) rfl (by simp) (HSRC.out _ (by repeat (first | exact Below.refl _ _ | exact alloc1 _ _ | exact HBW1.out | refine Below.drew ?_ | refine Below.alloc ?_ (by first | omega | (simp; done) | (simp; omega)) _))) (strs_cell _) (by unfold maxLen; omega) (by omega) (by first | omega | (simp; done) | (simp; omega)) ?_; intro v1 w1 hown1 hgrow1; simp only [Nat.zero_add, List.nil_append] at hown1; have HOW1 := hide hown1; have HBW1 : Hid (Below w.heap.size w w1) := hide (Below.grown (by repeat (first | exact Below.refl _ _ | exact alloc1 _ _ | exact HBW1.out | refine Below.drew ?_ | refine Below.alloc ?_ (by first | omega | (simp; done) | (simp; omega)) _)) hgrow1 (by first | omega | (simp; done) | (simp; omega)) (by intro k hk; simp [Value.ownBlock] at hk; omega)); have e1 : w1.cell? ⟨w.heap.size, 1, none⟩ = some (.string name) := (grow_cell hgrow1 ⟨w.heap.size, 1, none⟩ (by first | omega | (simp; done) | (simp; omega)) (by first | (simp [Value.ownBlock]; done) | (simp [Value.ownBlock]; omega))).trans (by first | (simp; done) | exact (World.cell?_alloc_past _ _ _ (by first | (simp; done) | (simp; omega))).trans (by simp) | exact (World.cell?_alloc_past _ _ _ (by first | (simp; done) | (simp; omega))).trans ((World.cell?_alloc_past _ _ _ (by first | (simp; done) | (simp; omega))).trans (by simp))); have e2 : w1.cell? ⟨w.heap.size + 1 + 1, 0, none⟩ = some (.string name) := (grow_cell hgrow1 ⟨w.heap.size + 1 + 1, 0, none⟩ (by first | omega | (simp; done) | (simp; omega)) (by first | (simp [Value.ownBlock]; done) | (simp [Value.ownBlock]; omega))).trans (by first | exact cell_new _ _ _ _ (by simp) | exact (cell_old _ _ _ (by simp)).trans (cell_new _ _ _ _ (by simp))); have hz1 : w.heap.size + 2 ≤ w1.heap.size := (by have := hgrow1.size; simp at this; omega); clear hown1 hgrow1) | (refine step_append_with rfl (.tmp 110) (.slice (some ⟨w.heap.size + 2, 0, none⟩) 1 1) rfl (.tmp 105) (.tmp 106) 30 rfl w.heap.size 9 i0 (.string ByteArray.empty) 1 16 Tryz.underlying30 HI.out.1 HI.out.2.1 HI.out.2.2.1 HI.out.2.2.2 rfl (by decide) (.slice (some ⟨w.heap.size + 1, 0, none⟩) 0 0) 0 [] rfl (own_empty _ _ _ (w.heap.size + 1) (by omega) (by first | exact heap_new _ _ _ (by simp) | exact (heap_old _ _ _ (by simp)).trans (heap_new _ _ _ (by simp)))) ⟨rb, ro, none⟩ (recsOf st).length rcap ((recsOf st).map Value.string) rfl (by simp) (HSRC.out _ (by repeat (first | exact Below.refl _ _ | exact alloc1 _ _ | exact HBW1.out | refine Below.drew ?_ | refine Below.alloc ?_ (by first | omega | (simp; done) | (simp; omega)) _))) (strs_cell _) (by unfold maxLen; omega) (by omega) (by first | omega | (simp; done) | (simp; omega)) ?_; intro v1 w1 hown1 hgrow1; simp only [Nat.zero_add, List.nil_append] at hown1; have HOW1 := hide hown1; have HBW1 : Hid (Below w.heap.size w w1) := hide (Below.grown (by repeat (first | exact Below.refl _ _ | exact alloc1 _ _ | exact HBW1.out | refine Below.drew ?_ | refine Below.alloc ?_ (by first | omega | (simp; done) | (simp; omega)) _)) hgrow1 (by first | omega | (simp; done) | (simp; omega)) (by intro k hk; simp [Value.ownBlock] at hk; omega)); have e1 : w1.cell? ⟨w.heap.size, 1, none⟩ = some (.string name) := (grow_cell hgrow1 ⟨w.heap.size, 1, none⟩ (by first | omega | (simp; done) | (simp; omega)) (by first | (simp [Value.ownBlock]; done) | (simp [Value.ownBlock]; omega))).trans (by first | (simp; done) | exact (World.cell?_alloc_past _ _ _ (by first | (simp; done) | (simp; omega))).trans (by simp) | exact (World.cell?_alloc_past _ _ _ (by first | (simp; done) | (simp; omega))).trans ((World.cell?_alloc_past _ _ _ (by first | (simp; done) | (simp; omega))).trans (by simp))); have e2 : w1.cell? ⟨w.heap.size + 2, 0, none⟩ = some (.string name) := (grow_cell hgrow1 ⟨w.heap.size + 2, 0, none⟩ (by first | omega | (simp; done) | (simp; omega)) (by first | (simp [Value.ownBlock]; done) | (simp [Value.ownBlock]; omega))).trans (by first | exact cell_new _ _ _ _ (by simp) | exact (cell_old _ _ _ (by simp)).trans (cell_new _ _ _ _ (by simp))); have hz1 : w.heap.size + 2 ≤ w1.heap.size := (by have := hgrow1.size; simp at this; omega); clear hown1 hgrow1) | (refine step_append_with rfl (.tmp 110) (.slice (some ⟨w.heap.size + 1, 0, none⟩) 1 1) rfl (.tmp 105) (.tmp 106) 30 rfl w.heap.size 9 i0 (.string ByteArray.empty) 1 16 Tryz.underlying30 HI.out.1 HI.out.2.1 HI.out.2.2.1 HI.out.2.2.2 rfl (by decide) (.slice (some ⟨w.heap.size + 1 + 1, 0, none⟩) 0 0) 0 [] rfl (own_empty _ _ _ (w.heap.size + 1 + 1) (by omega) (by first | exact heap_new _ _ _ (by simp) | exact (heap_old _ _ _ (by simp)).trans (heap_new _ _ _ (by simp)))) ⟨rb, ro, none⟩ (recsOf st).length rcap ((recsOf st).map Value.string) rfl (by simp) (HSRC.out _ (by repeat (first | exact Below.refl _ _ | exact alloc1 _ _ | exact HBW1.out | refine Below.drew ?_ | refine Below.alloc ?_ (by first | omega | (simp; done) | (simp; omega)) _))) (strs_cell _) (by unfold maxLen; omega) (by omega) (by first | omega | (simp; done) | (simp; omega)) ?_; intro v1 w1 hown1 hgrow1; simp only [Nat.zero_add, List.nil_append] at hown1; have HOW1 := hide hown1; have HBW1 : Hid (Below w.heap.size w w1) := hide (Below.grown (by repeat (first | exact Below.refl _ _ | exact alloc1 _ _ | exact HBW1.out | refine Below.drew ?_ | refine Below.alloc ?_ (by first | omega | (simp; done) | (simp; omega)) _)) hgrow1 (by first | omega | (simp; done) | (simp; omega)) (by intro k hk; simp [Value.ownBlock] at hk; omega)); have e1 : w1.cell? ⟨w.heap.size, 1, none⟩ = some (.string name) := (grow_cell hgrow1 ⟨w.heap.size, 1, none⟩ (by first | omega | (simp; done) | (simp; omega)) (by first | (simp [Value.ownBlock]; done) | (simp [Value.ownBlock]; omega))).trans (by first | (simp; done) | exact (World.cell?_alloc_past _ _ _ (by first | (simp; done) | (simp; omega))).trans (by simp) | exact (World.cell?_alloc_past _ _ _ (by first | (simp; done) | (simp; omega))).trans ((World.cell?_alloc_past _ _ _ (by first | (simp; done) | (simp; omega))).trans (by simp))); have e2 : w1.cell? ⟨w.heap.size + 1, 0, none⟩ = some (.string name) := (grow_cell hgrow1 ⟨w.heap.size + 1, 0, none⟩ (by first | omega | (simp; done) | (simp; omega)) (by first | (simp [Value.ownBlock]; done) | (simp [Value.ownBlock]; omega))).trans (by first | exact cell_new _ _ _ _ (by simp) | exact (cell_old _ _ _ (by simp)).trans (cell_new _ _ _ _ (by simp))); have hz1 : w.heap.size + 2 ≤ w1.heap.size := (by have := hgrow1.size; simp at this; omega); clear hown1 hgrow1) | (refine step_append_with rfl (.tmp 110) (.slice (some ⟨w.heap.size + 1, 0, none⟩) 1 1) rfl (.tmp 105) (.tmp 106) 30 rfl w.heap.size 9 i0 (.string ByteArray.empty) 1 16 Tryz.underlying30 HI.out.1 HI.out.2.1 HI.out.2.2.1 HI.out.2.2.2 rfl (by decide) (.slice (some ⟨w.heap.size + 2, 0, none⟩) 0 0) 0 [] rfl (own_empty _ _ _ (w.heap.size + 2) (by omega) (by first | exact heap_new _ _ _ (by simp) | exact (heap_old _ _ _ (by simp)).trans (heap_new _ _ _ (by simp)))) ⟨rb, ro, none⟩ (recsOf st).length rcap ((recsOf st).map Value.string) rfl (by simp) (HSRC.out _ (by repeat (first | exact Below.refl _ _ | exact alloc1 _ _ | exact HBW1.out | refine Below.drew ?_ | refine Below.alloc ?_ (by first | omega | (simp; done) | (simp; omega)) _))) (strs_cell _) (by unfold maxLen; omega) (by omega) (by first | omega | (simp; done) | (simp; omega)) ?_; intro v1 w1 hown1 hgrow1; simp only [Nat.zero_add, List.nil_append] at hown1; have HOW1 := hide hown1; have HBW1 : Hid (Below w.heap.size w w1) := hide (Below.grown (by repeat (first | exact Below.refl _ _ | exact alloc1 _ _ | exact HBW1.out | refine Below.drew ?_ | refine Below.alloc ?_ (by first | omega | (simp; done) | (simp; omega)) _)) hgrow1 (by first | omega | (simp; done) | (simp; omega)) (by intro k hk; simp [Value.ownBlock] at hk; omega)); have e1 : w1.cell? ⟨w.heap.size, 1, none⟩ = some (.string name) := (grow_cell hgrow1 ⟨w.heap.size, 1, none⟩ (by first | omega | (simp; done) | (simp; omega)) (by first | (simp [Value.ownBlock]; done) | (simp [Value.ownBlock]; omega))).trans (by first | (simp; done) | exact (World.cell?_alloc_past _ _ _ (by first | (simp; done) | (simp; omega))).trans (by simp) | exact (World.cell?_alloc_past _ _ _ (by first | (simp; done) | (simp; omega))).trans ((World.cell?_alloc_past _ _ _ (by first | (simp; done) | (simp; omega))).trans (by simp))); have e2 : w1.cell? ⟨w.heap.size + 1, 0, none⟩ = some (.string name) := (grow_cell hgrow1 ⟨w.heap.size + 1, 0, none⟩ (by first | omega | (simp; done) | (simp; omega)) (by first | (simp [Value.ownBlock]; done) | (simp [Value.ownBlock]; omega))).trans (by first | exact cell_new _ _ _ _ (by simp) | exact (cell_old _ _ _ (by simp)).trans (cell_new _ _ _ _ (by simp))); have hz1 : w.heap.size + 2 ≤ w1.heap.size := (by have := hgrow1.size; simp at this; omega); clear hown1 hgrow1) | (refine step_append_own rfl (.tmp 107) (.tmp 110) 30 rfl w.heap.size 9 i0 (.string ByteArray.empty) 1 16 Tryz.underlying30 HI.out.1 HI.out.2.1 HI.out.2.2.1 HI.out.2.2.2 rfl (by decide) v1 (recsOf st).length ((recsOf st).map Value.string) rfl (HOW1.out.alloc _) ⟨w1.heap.size, 0, none⟩ 1 1 [.string name] rfl rfl (one_new (cell_new _ _ _ _ rfl)) (one_cell _) (by unfold maxLen; omega) (by omega) (by first | omega | (simp; done) | (simp; omega)) ?_; intro v2 w2 hown2 hgrow2; have HTX2 : Hid (TextsAt w2 v2 (recsOf st ++ [name])) := hide (texts_own (ls := recsOf st ++ [name]) (by simpa using hown2) (by simp; omega)); have HBW2 : Hid (Below w.heap.size w w2) := hide (Below.grown (by repeat (first | exact Below.refl _ _ | exact alloc1 _ _ | exact HBW1.out | refine Below.drew ?_ | refine Below.alloc ?_ (by first | omega | (simp; done) | (simp; omega)) _)) hgrow2 (by first | omega | (simp; done) | (simp; omega)) (own_row HOW1.out)); clear hown2 hgrow2) | (refine step_append_own rfl (.tmp 107) (.tmp 110) 30 rfl w.heap.size 9 i0 (.string ByteArray.empty) 1 16 Tryz.underlying30 HI.out.1 HI.out.2.1 HI.out.2.2.1 HI.out.2.2.2 rfl (by decide) v1 (recsOf st).length ((recsOf st).map Value.string) rfl HOW1.out ⟨w.heap.size + 1, 0, none⟩ 1 1 [.string name] rfl rfl (one_new e2) (one_cell _) (by unfold maxLen; omega) (by omega) (by first | omega | (simp; done) | (simp; omega)) ?_; intro v2 w2 hown2 hgrow2; have HTX2 : Hid (TextsAt w2 v2 (recsOf st ++ [name])) := hide (texts_own (ls := recsOf st ++ [name]) (by simpa using hown2) (by simp; omega)); have HBW2 : Hid (Below w.heap.size w w2) := hide (Below.grown (by repeat (first | exact Below.refl _ _ | exact alloc1 _ _ | exact HBW1.out | refine Below.drew ?_ | refine Below.alloc ?_ (by first | omega | (simp; done) | (simp; omega)) _)) hgrow2 (by first | omega | (simp; done) | (simp; omega)) (own_row HOW1.out)); clear hown2 hgrow2) | (refine step_append_own rfl (.tmp 107) (.tmp 110) 30 rfl w.heap.size 9 i0 (.string ByteArray.empty) 1 16 Tryz.underlying30 HI.out.1 HI.out.2.1 HI.out.2.2.1 HI.out.2.2.2 rfl (by decide) v1 (recsOf st).length ((recsOf st).map Value.string) rfl HOW1.out ⟨w.heap.size + 1 + 1, 0, none⟩ 1 1 [.string name] rfl rfl (one_new e2) (one_cell _) (by unfold maxLen; omega) (by omega) (by first | omega | (simp; done) | (simp; omega)) ?_; intro v2 w2 hown2 hgrow2; have HTX2 : Hid (TextsAt w2 v2 (recsOf st ++ [name])) := hide (texts_own (ls := recsOf st ++ [name]) (by simpa using hown2) (by simp; omega)); have HBW2 : Hid (Below w.heap.size w w2) := hide (Below.grown (by repeat (first | exact Below.refl _ _ | exact alloc1 _ _ | exact HBW1.out | refine Below.drew ?_ | refine Below.alloc ?_ (by first | omega | (simp; done) | (simp; omega)) _)) hgrow2 (by first | omega | (simp; done) | (simp; omega)) (own_row HOW1.out)); clear hown2 hgrow2) | (refine step_append_own rfl (.tmp 107) (.tmp 110) 30 rfl w.heap.size 9 i0 (.string ByteArray.empty) 1 16 Tryz.underlying30 HI.out.1 HI.out.2.1 HI.out.2.2.1 HI.out.2.2.2 rfl (by decide) v1 (recsOf st).length ((recsOf st).map Value.string) rfl HOW1.out ⟨w.heap.size + 2, 0, none⟩ 1 1 [.string name] rfl rfl (one_new e2) (one_cell _) (by unfold maxLen; omega) (by omega) (by first | omega | (simp; done) | (simp; omega)) ?_; intro v2 w2 hown2 hgrow2; have HTX2 : Hid (TextsAt w2 v2 (recsOf st ++ [name])) := hide (texts_own (ls := recsOf st ++ [name]) (by simpa using hown2) (by simp; omega)); have HBW2 : Hid (Below w.heap.size w w2) := hide (Below.grown (by repeat (first | exact Below.refl _ _ | exact alloc1 _ _ | exact HBW1.out | refine Below.drew ?_ | refine Below.alloc ?_ (by first | omega | (simp; done) | (simp; omega)) _)) hgrow2 (by first | omega | (simp; done) | (simp; omega)) (own_row HOW1.out)); clear hown2 hgrow2) | (go_simp; go_at_call 82; refine (HF.out (⟨2, name, peer, many, sort⟩ :: st) all (pos + 1) bx _ _ _ _ _ HSL.out HSK.out HO.out (by rw [wrap_i _ (by omega) (by omega)]; omega) (by omega) (by rw [wrap_i _ (by omega) (by omega)]; simp) rfl (HX.out.carry HBW2.out) (by rw [HRE.out]; exact HTX2.out) (by rw [HRE.out]; intro h; simp at h)).mono ?_; rintro e w3 ⟨rfl, hb3⟩; have HB3 := hide hb3; clear hb3))
  go_wp2_with fail
  all_goals
    go_ret
    refine ⟨ret_int ?_, HBW2.out.trans (HB3.out.mono HBW2.out.size)⟩
    rw [HDROP.out, ahead_2 rfl, if_pos HYES.out]
    simp only [q2, q3]
end Go.Proofs.YtmjlblbhakppfaaGreatDoor
namespace Go.Proofs.YtmjlblbhakppfaaGreatDoor
open Go.RowKit

set_option maxHeartbeats 400000 in
theorem end_past (part : Bool) (f : Nat) (st all : List Nd) (pos bx : Nat) (a d op : Int) (rv : Value) (w : World) (ha : a = pos) (hpl : ¬ pos < all.length) (hx : LookAt w bx part all) (hr : TextsAt w rv (recsOf st)) :
    Calls Tryz.prog 82 #[.pointer (some ⟨bx, 0, none⟩), .int .i64 a, .int .i64 d, rv, .int .i64 op] w fun e w' => e = .returned (.int .i64 (endPos all (ahead (talkS part) f st (all.drop pos)))) ∧ Below w.heap.size w w' := by
  obtain ⟨rao, rcap, rfl, rc1, rc2, -⟩ := hr
  obtain ⟨xao, xcap, x0, x1, x2, x3, x4⟩ := hx
  subst ha
  have HE := hide (show endPos all (ahead (talkS part) f st (all.drop pos)) = -1 by rw [List.drop_of_length_le (by omega)]; cases f <;> rfl)
  have hp2 : decide ((all.length : Int) ≤ (pos : Int)) = true := decide_eq_true (by omega)
  clear x4
  go_enter Tryz.func82, Tryz.ntmps82
  go_wp2_with fail
  go_ret
  exact ⟨ret_int HE.out, Below.refl _ _⟩

theorem end_calls (part : Bool) (f : Nat) : EndCalls part f := by
  induction f with
  | zero =>
    intro st all pos bx a d op rv w hlen hst ok ha hpos hd hop hx hr hnil
    by_cases hpl : pos < all.length
    · cases hn : all[pos] with
      | mk op0 name peer many sort =>
        by_cases o0 : op0 = 0
        · subst o0; exact end_0 part 0 st all pos bx a d op rv w hlen hst ok ha hpl hd hop hx hr hnil name peer many sort hn
        · by_cases o1 : op0 = 1
          · subst o1; exact end_1 part 0 st all pos bx a d op rv w hlen hst ok ha hpl hd hop hx hr hnil name peer many sort hn
          · by_cases o2 : op0 = 2
            · subst o2; exact end_2a part 0 st all pos bx a d op rv w hlen hst ok ha hpl hd hop hx hr hnil name peer many sort (.inl rfl) hn
            · exact end_t part 0 (fun g h => absurd h (by omega)) st all pos bx a d op rv w hlen hst ok ha hpl hd hop hx hr hnil name peer op0 many sort ⟨o0, o1, o2⟩ hn
    · exact end_past part 0 st all pos bx a d op rv w ha hpl hx hr
  | succ f ih =>
    intro st all pos bx a d op rv w hlen hst ok ha hpos hd hop hx hr hnil
    by_cases hpl : pos < all.length
    · cases hn : all[pos] with
      | mk op0 name peer many sort =>
        by_cases o0 : op0 = 0
        · subst o0; exact end_0 part (f + 1) st all pos bx a d op rv w hlen hst ok ha hpl hd hop hx hr hnil name peer many sort hn
        · by_cases o1 : op0 = 1
          · subst o1; exact end_1 part (f + 1) st all pos bx a d op rv w hlen hst ok ha hpl hd hop hx hr hnil name peer many sort hn
          · by_cases o2 : op0 = 2
            · subst o2
              cases hy : (recB ⟨2, name, peer, many, sort⟩ && !withinB st name)
              · exact end_2a part (f + 1) st all pos bx a d op rv w hlen hst ok ha hpl hd hop hx hr hnil name peer many sort (.inr hy) hn
              · by_cases hrn : recsOf st = []
                · exact end_2n part f st all pos bx a d op rv w hlen hst ok ha hpl hd hop hx hr hnil name peer many sort ih hy hrn hn
                · exact end_2m part f st all pos bx a d op rv w hlen hst ok ha hpl hd hop hx hr hnil name peer many sort ih hy hrn hn
            · exact end_t part (f + 1) (fun g h => by cases h; exact ih) st all pos bx a d op rv w hlen hst ok ha hpl hd hop hx hr hnil name peer op0 many sort ⟨o0, o1, o2⟩ hn
    · exact end_past part (f + 1) st all pos bx a d op rv w ha hpl hx hr
end Go.Proofs.YtmjlblbhakppfaaGreatDoor
