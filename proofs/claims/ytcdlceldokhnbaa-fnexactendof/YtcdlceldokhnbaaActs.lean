/- The acts of a state: of the specification. -/
import Derived.Test.YtcdlceldokhnbaaOwnRAct
import Derived.Test.YtcdlceldokhnbaaPkMach
import Derived.Test.YtcdlceldokhnbaaMachM
namespace Go.Proofs.Ytcdlceldokhnbaa
open Go.RowKit

def stAt (m : Mach) (s : Int) : RState := (m.states[s.toNat]?).getD ⟨0, ByteArray.empty⟩
def actE (m : Mach) (s : Int) (e : REdge) : RAct := ⟨(stAt m s).kind, (stAt m s).peer, e.label, e.sort⟩
def actsV (m : Mach) (s : Int) : List RAct := (m.edges.filter fun e => e.src == s).map (actE m s)
def actsK (m : Mach) (s : Int) (k : Nat) : List RAct := ((m.edges.take k).filter fun e => e.src == s).map (actE m s)
theorem actsK_no {m : Mach} {s : Int} {k : Nat} (h : k < m.edges.length) (hn : (m.edges[k].src == s) = false) : actsK m s (k + 1) = actsK m s k := by
  unfold actsK
  rw [List.take_succ_eq_append_getElem h, List.filter_append]
  simp [hn]
theorem actsK_yes {m : Mach} {s : Int} {k : Nat} (h : k < m.edges.length) (hn : (m.edges[k].src == s) = true) : actsK m s (k + 1) = actsK m s k ++ [actE m s m.edges[k]] := by
  unfold actsK
  rw [List.take_succ_eq_append_getElem h, List.filter_append, List.map_append]
  simp [hn]
theorem actsK_all {m : Mach} {s : Int} {k : Nat} (h : m.edges.length ≤ k) : actsK m s k = actsV m s := by
  unfold actsK actsV
  rw [List.take_of_length_le h]
theorem actsK_len (m : Mach) (s : Int) (k : Nat) : (actsK m s k).length ≤ k := by
  unfold actsK
  rw [List.length_map]
  exact Nat.le_trans (List.length_filter_le _ _) (List.length_take_le _ _)
theorem actsV_len (m : Mach) (s : Int) : (actsV m s).length ≤ m.edges.length := by
  unfold actsV
  rw [List.length_map]
  exact List.length_filter_le _ _
theorem Try.infoAct : (Try.prog.info? 63).map (fun i => (i.zero, i.size, i.bytes)) = some (some (.agg #[.int .i64 0, .string ByteArray.empty, .string ByteArray.empty, .int .i64 0]), 4, 48) := by kernel_rfl

theorem balloc2 (w : World) (a b : Obj) : Below w.heap.size w ((w.alloc a).alloc b) := (malloc1 _ _).trans ((malloc1 _ _).mono (by simp))
theorem new_row2 (w : World) (A : Obj) (cs : List Value) (t : TypeId) (j : Nat) (u : Value) (h : cs[j]? = some u) : ((w.alloc A).alloc (.cells cs.toArray t)).cell? (Addr.add ⟨w.heap.size + 1, 0, none⟩ j) = some u := by
  have e : ((w.alloc A).alloc (.cells cs.toArray t)).heap[w.heap.size + 1]? = some (.cells cs.toArray t) := mheap_new _ _ _ (by simp)
  have ea : Addr.add ⟨w.heap.size + 1, 0, none⟩ j = ⟨w.heap.size + 1, j, none⟩ := by
    unfold Addr.add
    split <;> simp_all
  rw [ea]
  simp only [World.cell?]
  rw [e]
  simpa using h
set_option maxRecDepth 100000 in
set_option maxHeartbeats 1000000 in
theorem s_l04acts (m : Mach) (s : Int) (v : Value) (w : World) (hv : MachAt w v m) (h0 : 0 ≤ s) (h1 : s < (m.states.length : Int)) (h80 : m.edges.length ≤ 80) :
    Calls Try.prog 84 #[v, .int .i64 s] w fun e w' => ∃ v', e = .returned v' ∧ RActOwn w' w.heap.size v' (actsV m s) ∧ Below w.heap.size w w' := by
  obtain ⟨i0, hi, hz0, hz1, hz2⟩ := info_parts Try.infoAct
  have HI := hide (And.intro hi (And.intro hz0 (And.intro hz1 hz2)))
  clear hi hz0 hz1 hz2
  obtain ⟨sv, ev, rfl, hs, he⟩ := hv
  have hsl := hs.lenm
  obtain ⟨sa, sc, rfl, hs1, hs2, hs3⟩ := hs
  obtain ⟨ea, ec, rfl, he1, he2, he3⟩ := he
  obtain ⟨bs, os, rfl, hbsB, hsrow⟩ := hs3 (by intro h; rw [h] at h1; simp at h1; omega)
  have hlt0 : s.toNat < m.states.length := by omega
  have hst := hsrow.get s.toNat hlt0
  obtain ⟨x, hx⟩ : ∃ x, x = m.states[s.toNat] := ⟨_, rfl⟩
  have HX : Hid (stAt m s = x) := hide (by rw [stAt, List.getElem?_eq_getElem hlt0, hx]; rfl)
  rw [← hx] at hst
  obtain ⟨c0, c1⟩ := hst
  have HER := hide he3
  clear hx hsrow he3
  go_enter Try.func84, Try.ntmps84
  go_wp2_with fail
  go_loopw [5, 7] (fun out i wr => ∃ k : Nat, k ≤ m.edges.length ∧ i = .int .i64 k ∧ RActOwn wr (w.heap.size + 1) out (actsK m s k) ∧ (∀ b ∈ vblocks out, b ≠ w.heap.size + 2) ∧ Below (w.heap.size + 1) (w.alloc (.cells #[.slice (some ⟨bs, os, none⟩) m.states.length sc, .slice ea m.edges.length ec, .int .i64 m.start] 43)) wr ∧ w.heap.size + 2 < wr.heap.size ∧ wr.cell? ⟨w.heap.size + 2, 0, none⟩ = some (.int .i64 x.kind) ∧ wr.cell? ⟨w.heap.size + 2, 1, none⟩ = some (.string x.peer)) (fun _ i _ => m.edges.length - (intOf i).toNat)
  case atStart =>
    refine ⟨0, Nat.zero_le _, rfl, ?_, ?_, ?_, ?_, ?_, ?_⟩
    · exact owns_empty _ _ _ _ (w.heap.size + 1) (Nat.le_refl _) (by rw [mheap_old _ _ _ (by simp), mheap_new _ _ _ (by simp)])
    · intro b hb
      simp [vblocks, cellBlocks] at hb
      omega
    · exact ((Below.refl _ _).alloc (by simp) _).alloc (by simp) _
    · simp
    · exact c3_2 _ _ _ _ _ _ _ rfl
    · exact c3_2 _ _ _ _ _ _ _ rfl
  case round =>
    obtain ⟨k, hk, rfl, hown, hnb, hbel, hsz, g0, g1⟩ := hrel
    have HOWN := hide hown
    have HNB := hide hnb
    have HBEL := hide hbel
    have b0 : wr.cell? ⟨w.heap.size, 0, none⟩ = some (.slice (some ⟨bs, os, none⟩) m.states.length sc) := (hbel.cell (p := ⟨w.heap.size, 0, none⟩) (by simp)).trans (by simp)
    have b1 : wr.cell? ⟨w.heap.size, 1, none⟩ = some (.slice ea m.edges.length ec) := (hbel.cell (p := ⟨w.heap.size, 1, none⟩) (by simp)).trans (by simp)
    have HW : Hid (Below w.heap.size w wr) := hide ((malloc1 _ _).trans (hbel.mono (by omega)))
    obtain ⟨p, cp, rfl⟩ := owns_shape hown
    have hkl := actsK_len m s k
    clear hown hnb hbel
    by_cases hlt : k < m.edges.length
    · obtain ⟨b, o, rfl, hbB, hrow⟩ := HER.out (by intro h; simp [h] at hlt)
      have hnode := (hrow.get k hlt).carry hbB HW.out
      obtain ⟨e1, he1'⟩ : ∃ e1, e1 = m.edges[k] := ⟨_, rfl⟩
      rw [← he1'] at hnode
      obtain ⟨d0, d1, d2, d3⟩ := hnode
      obtain ⟨q, hq⟩ : ∃ q, (e1.src == s) = q := ⟨_, rfl⟩
      have HNO : Hid (q = false → actsK m s (k + 1) = actsK m s k) := hide (fun h => actsK_no hlt (by rw [← he1', hq, h]))
      have HYES : Hid (q = true → actsK m s (k + 1) = actsK m s k ++ [actE m s e1]) := hide (fun h => by rw [actsK_yes hlt (by rw [← he1', hq, h]), ← he1'])
      clear he1' hrow
      cases q
      · go_wp2_with fail
        go_roundw
        case rel =>
          exact ⟨k + 1, hlt, by go_num, by rw [HNO.out rfl]; exact HOWN.out.below (malloc1 _ _), HNB.out, HBEL.out.alloc (by omega) _, by simp; omega, ((malloc1 wr _).cell (p := ⟨w.heap.size + 2, 0, none⟩) hsz).trans g0, ((malloc1 wr _).cell (p := ⟨w.heap.size + 2, 1, none⟩) hsz).trans g1⟩
        case measure => simp [intOf]; omega
      · go_wp2_with (at_builtin; refine wpList_append_own_at _ rfl (.tmp 31) (.tmp 41) 53 rfl (w.heap.size + 1) 63 i0 (.agg #[.int .i64 0, .string ByteArray.empty, .string ByteArray.empty, .int .i64 0]) 4 48 Try.underlying53 HI.out.1 HI.out.2.1 HI.out.2.2.1 HI.out.2.2.2 rfl (by decide) (.slice p (actsK m s k).length cp) (actsK m s k).length ((actsK m s k).flatMap RAct.cells) rfl (HOWN.out.below (balloc2 _ _ _)) ⟨wr.heap.size + 1, 0, none⟩ 1 1 (RAct.mk x.kind x.peer e1.label e1.sort).cells rfl rfl (fun j u hj => new_row2 _ _ _ _ j u hj) (RAct.cells_one _) (by unfold maxLen; omega) (by omega) (by simp; omega) ?_; intro v2 w2 hown2 hgr2 _ hat2; have HOWN2 := hide hown2; have HGR2 := hide hgr2; have HAT2 := hide hat2; clear hown2 hgr2 hat2)
        go_roundw
        case rel =>
          have hA : Apart wr w2 (vblocks (.slice p (actsK m s k).length cp)) := by
            have := (below_apart (balloc2 wr _ _)).trans (grownBy_apart HGR2.out)
            rwa [List.nil_append] at this
          have hlo : ∀ b ∈ vblocks (.slice p (actsK m s k).length cp), w.heap.size + 1 ≤ b := HOWN.out.fresh.lo
          have hne : ∀ j u, wr.cell? ⟨w.heap.size + 2, j, none⟩ = some u → w2.cell? ⟨w.heap.size + 2, j, none⟩ = some u := fun j u hu =>
            (World.cell?_of_block (a := ⟨w.heap.size + 2, j, none⟩) (hA.block _ hsz (fun hm => HNB.out _ hm rfl))).trans hu
          refine ⟨k + 1, hlt, by go_num, ?_, ?_, ?_, Nat.lt_of_lt_of_le hsz hA.size, hne 0 _ g0, hne 1 _ g1⟩
          · rw [HYES.out rfl, actE, HX.out]
            exact RActOwn.snoc HOWN2.out
          · intro b hb
            have hv := owns_shape HOWN2.out
            obtain ⟨p2, c2, hv⟩ := hv
            have hb2 := (own_blocks hv).2 hb
            rcases HAT2.out with h | h
            · rw [h] at hb2
              exact HNB.out b ((own_blocks rfl).1 hb2)
            · rw [h] at hb2
              simp at hb2
              omega
          · exact HBEL.out.trans (hA.below (by omega) hlo)
        case measure => simp [intOf]; omega
    · go_wp2_with fail
      go_ret
      refine ⟨_, rfl, ?_, HW.out⟩
      have := HOWN.out
      rw [actsK_all (by omega)] at this ⊢
      obtain ⟨h1, h2⟩ := this
      exact ⟨h1, h2.imp id (fun ⟨g, c, cur, h3, h4, h5⟩ => ⟨g, c, cur, h3, by omega, h5⟩)⟩
end Go.Proofs.Ytcdlceldokhnbaa
