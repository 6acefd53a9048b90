import Derived.Test.YtlbcnmcfljaijaaQF15
import Derived.Test.YtlbcnmcfljaijaaQF04
import Derived.Test.YtlbcnmcfljaijaaQF06
import Derived.Deep.DrawnRows
namespace Go.Proofs.Ytlbcnmcfljaijaa
open Go.RowKit
attribute [local go_sem ↓] Go.wp_at_zero Go.wp_at_succ

def isSt (n : Nd) : Bool := n.op == 0 || n.op == 5 || n.op == 6
def cntS (all : List Nd) (pos : Nat) : Nat := ((all.take pos).filter isSt).length
theorem cntS_succ {all : List Nd} {pos : Nat} (h : pos < all.length) : cntS all (pos + 1) = cntS all pos + (if isSt all[pos] then 1 else 0) := by
  unfold cntS
  rw [List.take_succ_eq_append_getElem h, List.filter_append, List.length_append]
  cases hb : isSt all[pos] <;> simp [hb]
theorem cntS_le (all : List Nd) (pos : Nat) : cntS all pos ≤ pos := by
  unfold cntS
  have h1 := List.length_filter_le isSt (all.take pos)
  have h2 : (all.take pos).length ≤ pos := by simp; omega
  omega
structure FirAt (w : World) (xb B : Nat) (all : List Nd) (ns : List ByteArray) (fis : List Int) : Prop where
  c0 : ∃ v, w.cell? ⟨xb, 0, none⟩ = some v ∧ SlAt w B v all
  nm : ∃ g cap, w.cell? ⟨xb, 4, none⟩ = some (.slice g ns.length cap) ∧ ∀ j (h : j < ns.length), ∃ b o, g = some ⟨b, o, none⟩ ∧ b < B ∧ w.cell? ⟨b, o + j, none⟩ = some (.string ns[j])
  fi : ∃ g cap, w.cell? ⟨xb, 5, none⟩ = some (.slice g fis.length cap) ∧ ∀ j (h : j < fis.length), ∃ b o, g = some ⟨b, o, none⟩ ∧ b < B ∧ w.cell? ⟨b, o + j, none⟩ = some (.int .i64 fis[j])
  lx : xb < B
theorem FirAt.below {w w' : World} {xb B : Nat} {all : List Nd} {ns : List ByteArray} {fis : List Int} (h : FirAt w xb B all ns fis) (hb : Below B w w') : FirAt w' xb B all ns fis := by
  obtain ⟨⟨v, h1, h2⟩, ⟨g, cap, h3, h4⟩, ⟨g', cap', h5, h6⟩, h7⟩ := h
  refine ⟨⟨v, (hb.cell (p := ⟨xb, 0, none⟩) h7).trans h1, h2.carry hb⟩, ⟨g, cap, (hb.cell (p := ⟨xb, 4, none⟩) h7).trans h3, fun j hj => ?_⟩, ⟨g', cap', (hb.cell (p := ⟨xb, 5, none⟩) h7).trans h5, fun j hj => ?_⟩, h7⟩
  · obtain ⟨b, o, e1, e2, e3⟩ := h4 j hj
    exact ⟨b, o, e1, e2, (hb.cell (p := ⟨b, o + j, none⟩) e2).trans e3⟩
  · obtain ⟨b, o, e1, e2, e3⟩ := h6 j hj
    exact ⟨b, o, e1, e2, (hb.cell (p := ⟨b, o + j, none⟩) e2).trans e3⟩
theorem look_at : ∀ {ns : List ByteArray} {fis : List Int} {t : ByteArray} {k : Nat}, fis.length = ns.length → (∀ j (h : j < ns.length), j < k → (ns[j].toList == t.toList) = false) → (hk : k < ns.length) → (ns[k].toList == t.toList) = true → ∀ (hf : k < fis.length), lookN ns fis t = fis[k]
  | x :: ns, z :: fis, t, 0, _, _, _, h, _ => by rw [lookN]; simp only [List.getElem_cons_zero] at h ⊢; rw [if_pos h]
  | x :: ns, z :: fis, t, k + 1, hl, hn, hk, h, hf => by
    have h0 := hn 0 (by simp) (by omega)
    simp only [List.getElem_cons_zero] at h0
    rw [lookN, h0]
    simp only [List.getElem_cons_succ] at h ⊢
    exact look_at (by simpa using hl) (fun j hj hjk => by have := hn (j + 1) (by simpa using hj) (by omega); simpa using this) (by simpa using hk) h (by simpa using hf)
theorem look_no {ns : List ByteArray} {fis : List Int} {t : ByteArray} (hn : ∀ j (h : j < ns.length), (ns[j].toList == t.toList) = false) : lookN ns fis t = 0 := by
  refine look_none ?_
  cases h : hasB ns t
  · rfl
  · simp only [hasB, List.any_eq_true] at h
    obtain ⟨x, hx, h2⟩ := h
    obtain ⟨j, hj, rfl⟩ := List.getElem_of_mem hx
    rw [hn j hj] at h2; cases h2
end Go.Proofs.Ytlbcnmcfljaijaa
namespace Go.Proofs.Ytlbcnmcfljaijaa
open Go.RowKit
attribute [local go_sem ↓] Go.wp_at_zero Go.wp_at_succ

set_option maxRecDepth 100000 in
set_option maxHeartbeats 400000 in
theorem right_with {q : Bool} {m : Mach} {s : Int} (hq : (machB m && inB s 0 ((m.states.length : Int) - 1)) = q) (v : Value) (w : World) (hf : m.fit) (hv : MachAt w v m) :
    Calls Try.prog 26 #[v, .int .i64 s] w fun e w' => e = .returned (.bool q) ∧ Below w.heap.size w w' := by
  have HF := hide hf
  have HV : Hid (∀ W, Below w.heap.size w W → MachAt W v m) := hide (fun W hb => hv.carry hb)
  obtain ⟨sa, sc, ea, ec, rfl⟩ := hv.shape
  obtain ⟨q1, hq1⟩ : ∃ q1, machB m = q1 := ⟨_, rfl⟩
  obtain ⟨q2, hq2⟩ : ∃ q2, inB s 0 ((m.states.length : Int) - 1) = q2 := ⟨_, rfl⟩
  have HQ : Hid (q = (q1 && q2)) := hide (by rw [← hq, hq1, hq2])
  have HQ1 := hide hq1
  have HQ2 := hide hq2
  clear hq1 hq2 hf hv hq
  have HGO : Hid (∀ W A, W = w.alloc A → Below w.heap.size w W) := hide (fun W A hW => by rw [hW]; exact malloc1 _ _)
  unfold machV
  cases q1
  · go_enter Try.func26, Try.ntmps26
    go_wp2_with (refine wp_text_from 5 (fun W hW => ?_); have hne := grown_some W; have f0 := grown_cell (w := W) (b := w.heap.size) (o := 0) (v := .slice sa m.states.length sc) (by rw [hW]; simp); have f1 := grown_cell (w := W) (b := w.heap.size) (o := 1) (v := .slice ea m.edges.length ec) (by rw [hW]; simp); have f2 := grown_cell (w := W) (b := w.heap.size) (o := 2) (v := .int .i64 m.start) (by rw [hW]; simp); have HBW := hide (HGO.out W _ hW); clear hW; (repeat (go_big_quiet_step (first
        | (go_at_call 18; exact grown_more (machine_right_at HQ1.out _ _ HF.out ((HV.out _ HBW.out).carry (Grown.bel _))))
        | (go_at_call 34; exact grown_more (has_state HQ2.out _ _ ((HV.out _ HBW.out).carry (Grown.bel _))))))); refine wpQuiet_nil ?_; intro w1 hw1; have HW1 := hide hw1; clear hw1 hne f0 f1 f2)
    go_ret
    exact ⟨ret_bool (by rw [HQ.out]; rfl), HBW.out.trans (HW1.out.mono HBW.out.size)⟩
  · cases q2
    · go_enter Try.func26, Try.ntmps26
      go_wp2_with (refine wp_text_from 5 (fun W hW => ?_); have hne := grown_some W; have f0 := grown_cell (w := W) (b := w.heap.size) (o := 0) (v := .slice sa m.states.length sc) (by rw [hW]; simp); have f1 := grown_cell (w := W) (b := w.heap.size) (o := 1) (v := .slice ea m.edges.length ec) (by rw [hW]; simp); have f2 := grown_cell (w := W) (b := w.heap.size) (o := 2) (v := .int .i64 m.start) (by rw [hW]; simp); have HBW := hide (HGO.out W _ hW); clear hW; (repeat (go_big_quiet_step (first
        | (go_at_call 18; exact grown_more (machine_right_at HQ1.out _ _ HF.out ((HV.out _ HBW.out).carry (Grown.bel _))))
        | (go_at_call 34; exact grown_more (has_state HQ2.out _ _ ((HV.out _ HBW.out).carry (Grown.bel _))))))); refine wpQuiet_nil ?_; intro w1 hw1; have HW1 := hide hw1; clear hw1 hne f0 f1 f2)
      go_ret
      exact ⟨ret_bool (by rw [HQ.out]; rfl), HBW.out.trans (HW1.out.mono HBW.out.size)⟩
    · go_enter Try.func26, Try.ntmps26
      go_wp2_with (refine wp_text_from 5 (fun W hW => ?_); have hne := grown_some W; have f0 := grown_cell (w := W) (b := w.heap.size) (o := 0) (v := .slice sa m.states.length sc) (by rw [hW]; simp); have f1 := grown_cell (w := W) (b := w.heap.size) (o := 1) (v := .slice ea m.edges.length ec) (by rw [hW]; simp); have f2 := grown_cell (w := W) (b := w.heap.size) (o := 2) (v := .int .i64 m.start) (by rw [hW]; simp); have HBW := hide (HGO.out W _ hW); clear hW; (repeat (go_big_quiet_step (first
        | (go_at_call 18; exact grown_more (machine_right_at HQ1.out _ _ HF.out ((HV.out _ HBW.out).carry (Grown.bel _))))
        | (go_at_call 34; exact grown_more (has_state HQ2.out _ _ ((HV.out _ HBW.out).carry (Grown.bel _))))))); refine wpQuiet_nil ?_; intro w1 hw1; have HW1 := hide hw1; clear hw1 hne f0 f1 f2)
      go_ret
      exact ⟨ret_bool (by rw [HQ.out]; rfl), HBW.out.trans (HW1.out.mono HBW.out.size)⟩

theorem act_fit {m : Mach} (hf : m.fit) {e : REdge} (he : e ∈ m.edges) (s : Int) : (actE m s e).fit := by
  refine ⟨?_, hf.2.1 e he⟩
  show (stAt m s).peer.size ≤ 1048576
  unfold stAt
  cases h : m.states[s.toNat]? with
  | none => simp
  | some x => exact hf.1 x (List.mem_of_getElem? h)
end Go.Proofs.Ytlbcnmcfljaijaa
