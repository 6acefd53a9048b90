/- What is on its way: the mathematics. -/
import Derived.Test.YtonafcifolddjaaGreatDoorQB06
import Derived.Test.YtonafcifolddjaaGreatDoorQB03
namespace Go.Proofs.YtonafcifolddjaaGreatDoor
open Go.RowKit

def sortM (n : Int) : Bool := decide (0 ≤ n) && decide (n ≤ 2)
def msgB (m : RMsg) : Bool := nameB m.frm && (nameB m.to && (nameB m.label && (!(m.frm.toList == m.to.toList) && sortM m.sort)))
/-- a message goes between these two -/
def isMsg (f t : ByteArray) (m : RMsg) : Bool := m.frm.toList == f.toList && m.to.toList == t.toList
def cntM (f t : ByteArray) (l : List RMsg) : Nat := l.countP (isMsg f t)
def netB (l : List RMsg) : Bool := decide (l.length ≤ 36) && l.all fun m => msgB m && decide (cntM m.frm m.to l ≤ 3)
theorem bytes_inj {a b : ByteArray} (h : a.toList = b.toList) : a = b := by
  rw [Go.ByteArray.toList_eq, Go.ByteArray.toList_eq] at h
  apply ByteArray.ext
  exact Array.ext' h
theorem isMsg_iff {f t : ByteArray} {m : RMsg} : isMsg f t m = true ↔ m.frm = f ∧ m.to = t := by
  simp only [isMsg, Bool.and_eq_true, beq_iff_eq]
  exact ⟨fun h => ⟨bytes_inj h.1, bytes_inj h.2⟩, fun h => by rw [h.1, h.2]; exact ⟨rfl, rfl⟩⟩
theorem isMsg_self (m : RMsg) : isMsg m.frm m.to m = true := isMsg_iff.2 ⟨rfl, rfl⟩
theorem cntM_app (f t : ByteArray) (a b : List RMsg) : cntM f t (a ++ b) = cntM f t a + cntM f t b := List.countP_append
theorem cntM_one (f t : ByteArray) (m : RMsg) : cntM f t [m] = if isMsg f t m then 1 else 0 := by
  simp [cntM, List.countP_cons]
theorem cntM_le (f t : ByteArray) (l : List RMsg) : cntM f t l ≤ l.length := List.countP_le_length
theorem cntM_take (f t : ByteArray) (l : List RMsg) (k : Nat) : cntM f t (l.take k) ≤ cntM f t l := by
  have := cntM_app f t (l.take k) (l.drop k)
  rw [List.take_append_drop] at this
  omega
theorem cntM_succ (f t : ByteArray) {l : List RMsg} {k : Nat} (h : k < l.length) : cntM f t (l.take (k + 1)) = cntM f t (l.take k) + if isMsg f t l[k] then 1 else 0 := by
  rw [List.take_succ_eq_append_getElem h, cntM_app, cntM_one]
theorem net_long {l : List RMsg} (h : 36 < l.length) : netB l = false := by
  rw [netB, decide_eq_false (by omega)]; rfl
theorem net_msg {l : List RMsg} {m : RMsg} (hm : m ∈ l) (h : msgB m = false) : netB l = false := by
  have : (l.all fun m => msgB m && decide (cntM m.frm m.to l ≤ 3)) = false := by
    rw [List.all_eq_false]; exact ⟨m, hm, by simp [h]⟩
  rw [netB, this, Bool.and_false]
theorem net_full {l : List RMsg} {m : RMsg} (hm : m ∈ l) (h : 3 < cntM m.frm m.to l) : netB l = false := by
  have : (l.all fun m => msgB m && decide (cntM m.frm m.to l ≤ 3)) = false := by
    rw [List.all_eq_false]; exact ⟨m, hm, by simp; intro _; omega⟩
  rw [netB, this, Bool.and_false]
theorem net_yes {l : List RMsg} (h1 : l.length ≤ 36) (h2 : ∀ m ∈ l, msgB m = true) (h3 : ∀ m ∈ l, cntM m.frm m.to l ≤ 3) : netB l = true := by
  rw [netB, decide_eq_true h1, Bool.true_and, List.all_eq_true]
  intro m hm
  rw [h2 m hm, decide_eq_true (h3 m hm)]; rfl
theorem net_len {l : List RMsg} (h : netB l = true) : l.length ≤ 36 := by
  simp only [netB, Bool.and_eq_true, decide_eq_true_eq] at h; exact h.1
theorem net_right {l : List RMsg} (h : netB l = true) : ∀ m ∈ l, msgB m = true ∧ cntM m.frm m.to l ≤ 3 := by
  simp only [netB, Bool.and_eq_true, List.all_eq_true, decide_eq_true_eq] at h
  exact h.2
theorem net_cnt {l : List RMsg} (h : netB l = true) (f t : ByteArray) : cntM f t l ≤ 3 := by
  by_cases h0 : cntM f t l = 0
  · omega
  · obtain ⟨m, hm, hp⟩ := List.countP_pos_iff.1 (Nat.pos_of_ne_zero h0)
    obtain ⟨rfl, rfl⟩ := isMsg_iff.1 hp
    exact (net_right h m hm).2
theorem msg_name {m : RMsg} (h : msgB m = true) : nameB m.frm = true ∧ nameB m.to = true ∧ nameB m.label = true ∧ 0 ≤ m.sort ∧ m.sort ≤ 2 := by
  simp only [msgB, sortM, Bool.and_eq_true, decide_eq_true_eq] at h
  exact ⟨h.1, h.2.1, h.2.2.1, h.2.2.2.2⟩
theorem name_short {s : ByteArray} (h : nameB s = true) : s.size ≤ 20 := by
  simp only [nameB, Bool.and_eq_true, decide_eq_true_eq] at h
  exact h.1.2
theorem ib_sort {q : Bool} {n : Int} (hq : sortM n = q) (w : World) :
    Calls Tryz.prog 70 #[.int .i64 n] w fun e w' => e = .returned (.bool q) ∧ w' = w := by
  have HQ := hide hq
  clear hq
  by_cases h : 0 ≤ n
  all_goals
    go_enter Tryz.func70, Tryz.ntmps70
    go_wp2_with fail
    go_ret
    exact ⟨ret_bool (by rw [← HQ.out]; simp [sortM, *]; try omega), rfl⟩
theorem sb_is (n lo hi : Int) (w : World) :
    Calls Tryz.prog 57 #[.int .i64 n, .int .i64 lo, .int .i64 hi] w fun e w' => e = .returned (.bool (decide (lo ≤ n) && decide (n ≤ hi))) ∧ w' = w := by
  by_cases h : lo ≤ n
  all_goals
    go_enter Tryz.func57, Tryz.ntmps57
    go_wp2_with fail
    go_ret
    refine ⟨ret_bool ?_, rfl⟩
    simp [*]
    try omega
theorem sb_sort {q : Bool} {n : Int} (hq : sortM n = q) (w : World) :
    Calls Tryz.prog 72 #[.int .i64 n] w fun e w' => e = .returned (.bool q) ∧ w' = w := by
  subst hq
  go_enter Tryz.func72, Tryz.ntmps72
  go_wp2_with (go_at_call 57; refine (sb_is _ _ _ _).mono ?_; rintro e w' ⟨rfl, rfl⟩)
  go_ret
  exact ⟨ret_bool rfl, rfl⟩
theorem in_name {q : Bool} {s : ByteArray} (h : nameB s = q) (hs : s.size ≤ maxLen) (w : World) :
    Calls Tryz.prog 69 #[.string s] w fun e w' => e = .returned (.bool q) ∧ w' = w := by subst h; exact impl_name s w hs
theorem sn_name {q : Bool} {s : ByteArray} (h : nameB s = q) (hs : s.size ≤ maxLen) (w : World) :
    Calls Tryz.prog 71 #[.string s] w fun e w' => e = .returned (.bool q) ∧ w' = w := by subst h; exact spec_name s w hs
end Go.Proofs.YtonafcifolddjaaGreatDoor
/- MsgRight, of the program and of the specification. -/
namespace Go.Proofs.YtonafcifolddjaaGreatDoor
open Go.RowKit

set_option maxRecDepth 10000 in
set_option maxHeartbeats 1000000 in
theorem s_msg {q : Bool} {m : RMsg} (hq : msgB m = q) (hok : m.ok) (w : World) :
    Calls Tryz.prog 25 #[m.val] w fun e w' => e = .returned (.bool q) ∧ Below w.heap.size w w' := by
  have HOK := hide hok
  obtain ⟨a, ha⟩ : ∃ a, nameB m.frm = a := ⟨_, rfl⟩
  obtain ⟨b, hb⟩ : ∃ b, nameB m.to = b := ⟨_, rfl⟩
  obtain ⟨c, hc⟩ : ∃ c, nameB m.label = c := ⟨_, rfl⟩
  obtain ⟨d, hd⟩ : ∃ d, (m.frm.toList == m.to.toList) = d := ⟨_, rfl⟩
  obtain ⟨s, hs⟩ : ∃ s, sortM m.sort = s := ⟨_, rfl⟩
  have HQ : Hid (q = (a && (b && (c && (!d && s))))) := hide (by rw [← hq, msgB, ha, hb, hc, hd, hs])
  have HA := hide ha
  have HB := hide hb
  have HC := hide hc
  have HS := hide hs
  clear hq hok ha hb hc hs
  unfold RMsg.val
  cases a
  case' true => cases b
  case' true.true => cases c
  case' true.true.true => cases d
  all_goals
    go_enter Tryz.func25, Tryz.ntmps25
    go_wp2_with (first
      | (go_at_call_of 71 m.frm; refine (sn_name HA.out HOK.out.1 _).mono ?_; rintro e w' ⟨rfl, rfl⟩)
      | (go_at_call_of 71 m.to; refine (sn_name HB.out HOK.out.2.1 _).mono ?_; rintro e w' ⟨rfl, rfl⟩)
      | (go_at_call_of 71 m.label; refine (sn_name HC.out HOK.out.2.2 _).mono ?_; rintro e w' ⟨rfl, rfl⟩)
      | (go_at_call 72; refine (sb_sort HS.out _).mono ?_; rintro e w' ⟨rfl, rfl⟩))
    go_ret
    exact ⟨ret_bool (by rw [HQ.out]; simp [*]), malloc1 _ _⟩

set_option maxRecDepth 10000 in
set_option maxHeartbeats 1000000 in
theorem i_msg {q : Bool} {m : RMsg} (hq : msgB m = q) (hok : m.ok) (w : World) :
    Calls Tryz.prog 24 #[m.val] w fun e w' => e = .returned (.bool q) ∧ Below w.heap.size w w' := by
  have HOK := hide hok
  obtain ⟨a, ha⟩ : ∃ a, nameB m.frm = a := ⟨_, rfl⟩
  obtain ⟨b, hb⟩ : ∃ b, nameB m.to = b := ⟨_, rfl⟩
  obtain ⟨c, hc⟩ : ∃ c, nameB m.label = c := ⟨_, rfl⟩
  obtain ⟨d, hd⟩ : ∃ d, (m.frm.toList == m.to.toList) = d := ⟨_, rfl⟩
  obtain ⟨s, hs⟩ : ∃ s, sortM m.sort = s := ⟨_, rfl⟩
  have HQ : Hid (q = (a && (b && (c && (!d && s))))) := hide (by rw [← hq, msgB, ha, hb, hc, hd, hs])
  have HA := hide ha
  have HB := hide hb
  have HC := hide hc
  have HS := hide hs
  clear hq hok ha hb hc hs
  unfold RMsg.val
  cases a
  case' true => cases b
  case' true.true => cases c
  case' true.true.true => cases d
  all_goals
    go_enter Tryz.func24, Tryz.ntmps24
    go_wp2_with (first
      | (go_at_call_of 69 m.frm; refine (in_name HA.out HOK.out.1 _).mono ?_; rintro e w' ⟨rfl, rfl⟩)
      | (go_at_call_of 69 m.to; refine (in_name HB.out HOK.out.2.1 _).mono ?_; rintro e w' ⟨rfl, rfl⟩)
      | (go_at_call_of 69 m.label; refine (in_name HC.out HOK.out.2.2 _).mono ?_; rintro e w' ⟨rfl, rfl⟩)
      | (go_at_call 70; refine (ib_sort HS.out _).mono ?_; rintro e w' ⟨rfl, rfl⟩))
    go_ret
    exact ⟨ret_bool (by rw [HQ.out]; simp [*]), malloc1 _ _⟩
end Go.Proofs.YtonafcifolddjaaGreatDoor
/- A region that draws its order, whose first operation hands a variable on. -/
namespace Go.Proofs.YtonafcifolddjaaGreatDoor
open Go.RowKit

theorem wp_named {P : Program} {c : Code} {Q : Exit → Act → World → Prop} {a : Act} {w : World} (h : ∀ W, W = w → c.wp P Q a W) : c.wp P Q a w := h w rfl
section
variable {P : Program} {ops : Array Oper} {md : Region.Mode} {C : World → Prop}
def sinkB1 (md : Region.Mode) (ops : Array Oper) (n : Nat) : Bool :=
  (List.range n).all fun i => i == 0 || (List.range (n + 1)).any fun j => decide (i < j) && Region.waitsFor md ops j i
theorem tail_waits1 {n : Nat} {listed : Array Bool} (hs : sinkB1 md ops n = true) (hc : Region.chainB md ops n = true) (hn : n < ops.size) (inv : HeadInv md ops n listed) :
    ∀ (d i : Nat), n - i = d → 0 < i → i < n → listed.getD i true = false → ∀ t, n ≤ t → t ∉ Region.ready md ops listed := by
  intro d
  induction d using Nat.strongRecOn with
  | _ d ih =>
    intro i hd hi0 hi hun t ht hr
    obtain ⟨_, ot, hot, hall⟩ := mem_ready.1 hr
    have htlt : t < ops.size := (Array.getElem?_eq_some_iff.1 hot).1
    by_cases htn : t = n
    · subst htn
      have h1 := List.all_eq_true.1 hs i (List.mem_range.2 hi)
      rw [Bool.or_eq_true] at h1
      rcases h1 with h1 | h1
      · simp at h1; omega
      obtain ⟨j, hj, hj2⟩ := List.any_eq_true.1 h1
      simp only [Bool.and_eq_true, decide_eq_true_eq] at hj2
      obtain ⟨oj, hoj, e, he, hb, hon⟩ := Region.waitsFor_spec hj2.2
      have hjle : j ≤ t := by have := List.mem_range.1 hj; omega
      by_cases hjt : j = t
      · subst hjt
        have : oj = ot := Option.some.inj (hoj.symm.trans hot)
        subst this
        have h2 := hall e he hb
        rw [hon, getD_both hun] at h2
        cases h2
      · cases hl : listed.getD j false with
        | true =>
          have h2 := inv.closed j oj hoj hl e he hb
          rw [hon, getD_both hun] at h2
          cases h2
        | false =>
          have hjs : j < listed.size := by rw [inv.size]; omega
          exact ih (t - j) (by omega) j rfl (by omega) (by omega) (getD_in hjs hl) t (Nat.le_refl _) hr
    · have h1 := List.all_eq_true.1 hc t (List.mem_range.2 htlt)
      simp only [Bool.or_eq_true, decide_eq_true_eq] at h1
      rcases h1 with h1 | h1
      · omega
      · obtain ⟨o', ho', e, he, hb, hon⟩ := Region.waitsFor_spec h1
        have : o' = ot := Option.some.inj (ho'.symm.trans hot)
        subst this
        have h2 := hall e he hb
        rw [hon, getD_both (inv.tail (t - 1) (by omega) (by omega))] at h2
        cases h2
theorem headQ_first1 {n i : Nat} {oi : Oper} {v : Value} {L : Array Bool → Act → Prop} (hi : ops[i]? = some oi) (hsel : ∀ (j : Nat) (o : Oper) cs b, ops[j]? = some o → o.op ≠ .select cs b)
    (hs : sinkB1 md ops n = true) (hc : Region.chainB md ops n = true) (hn : n < ops.size) (hi0 : 0 < i) (hin : i < n)
    (hdone : ∀ listed a, L listed a → ∀ j ∈ Region.ready md ops listed, n ≤ j) (f : Nat) :
    ∀ (listed : Array Bool) (a : Act), HeadInv md ops n listed →
      (∀ j oj, ops[j]? = some oj → j ≠ i → listed.getD j true = false → (∀ e ∈ oj.after, Region.binds md e = true → e.on ≠ i) → oi.apart ops oj = true) →
      i ∈ Region.ready md ops listed → YieldsIn P ops C oi v a →
      headQ P md ops C n L f (listed.setIfInBounds i true) (a.put oi.dst v) → headQ P md ops C n L (f + 1) listed a := by
  induction f with
  | zero =>
    intro listed a inv _ hr hy H
    refine ⟨fun h => (by rw [h] at hr; cases hr), fun j hj => ?_⟩
    have hjn : j < n := Nat.lt_of_not_le fun h => tail_waits1 hs hc hn inv _ i rfl hi0 hin (mem_ready.1 hr).1 j h hj
    refine ⟨hjn, ?_⟩
    by_cases hji : j = i
    · subst hji; exact hy.qOp hi H
    · exact absurd (hdone _ _ H j (ready_mono hj hji)) (by omega)
  | succ f ih =>
    intro listed a inv hfree hr hy H
    refine ⟨fun h => (by rw [h] at hr; cases hr), fun j hj => ?_⟩
    have hun := (mem_ready.1 hr).1
    have hjn : j < n := Nat.lt_of_not_le fun h => tail_waits1 hs hc hn inv _ i rfl hi0 hin hun j h hj
    refine ⟨hjn, ?_⟩
    by_cases hji : j = i
    · subst hji; exact hy.qOp hi H
    · obtain ⟨hjun, oj, hoj, hall⟩ := mem_ready.1 hj
      have hnot : ∀ e ∈ oj.after, Region.binds md e = true → e.on ≠ i := fun e he hb heq => by
        have h1 := hall e he hb
        rw [heq, getD_both hun] at h1
        cases h1
      have h2 := qOp_put hoj (hfree j oj hoj hji hjun hnot) (fun cs b => hsel i oi cs b hi) (fun cs b => hsel j oj cs b hoj) hy (H.2 j (ready_mono hj hji)).2
      refine qOp_mono (fun a' h3 => ih (listed.setIfInBounds j true) a' (inv.set hj hjn) (fun k ok hk hki hk' hno => ?_) (ready_mono hr (Ne.symm hji)) h3.1 ?_) h2
      · refine hfree k ok hk hki ?_ hno
        by_cases hjk : j = k
        · subst hjk; exact hjun
        · rwa [getD_set_ne true hjk] at hk'
      · rw [Array.setIfInBounds_comm _ _ hji]
        exact h3.2
theorem headQ_lex1 {n g : Nat} {Lq : Act → Prop} (hsel : Region.noSelect ops = true) (hs : sinkB1 md ops n = true) (hc : Region.chainB md ops n = true) (hn : n < ops.size) :
    ∀ (l : List Oper) (k : Nat) (listed : Array Bool) (a : Act), 0 < k → (∀ j, j < l.length → l[j]? = ops[k + j]?) → k + l.length = n → HeadInv md ops n listed →
    Region.lexHead md ops g l.length k listed = true → wpQuiet P ops C Lq l a →
    headQ P md ops C n (fun listed' a' => Region.seqB md ops g n listed' = true ∧ Lq a') l.length listed a
  | [], k, listed, a, _, _, hk, _, hB, h => by
    have e : k = n := by simpa using hk
    subst e
    exact ⟨by simpa [Region.lexHead] using hB, h⟩
  | o :: l, k, listed, a, hk0, hl, hk, inv, hB, h => by
    have h0 : ops[k]? = some o := by simpa using (hl 0 (by simp)).symm
    simp only [List.length_cons, Region.lexHead, Bool.and_eq_true] at hB
    have hkn : k < n := by simp only [List.length_cons] at hk; omega
    have hr : k ∈ Region.ready md ops listed := by simpa using hB.1.1
    obtain ⟨v, hy, hK⟩ := yieldsIn_of_qOp h0 (show qOp P ops C k (wpQuiet P ops C Lq l) a by unfold qOp; simp only [h0]; exact h)
    exact headQ_first1 h0 (Region.noSelect_spec hsel) hs hc hn hk0 hkn (fun _ _ hL => seqB_ready hL.1) l.length listed a inv (Region.free_spec h0 hB.1.2) hr hy
      (headQ_lex1 hsel hs hc hn l (k + 1) _ _ (by omega) (fun j hj => by have := hl (j + 1) (by simp; omega); simpa [Nat.add_assoc, Nat.add_comm 1 j] using this) (by simp only [List.length_cons] at hk; omega) (inv.set hr hkn) hB.2 hK)
end
def tailB1 (ops : Array Oper) (n : Nat) : Bool :=
  Region.noSelect ops && decide (n + 1 < ops.size) && sinkB1 .any ops (n + 1) && Region.chainB .any ops (n + 1) && (Region.ready .any ops (Array.replicate ops.size false)).contains 0 && Region.free .any ops (Array.replicate ops.size false) 0 && Region.lexHead .any ops (ops.size - (n + 1)) n 1 ((Array.replicate ops.size false).setIfInBounds 0 true)
theorem wp_region_tail1 {P : Program} {id : Nat} {Q : Exit → Act → World → Prop} {a : Act} {w : World} {o0 : Oper} {l : List Oper} (n : Nat) (x : Operand) (v0 : Value) (hv0 : a.eval x = v0) (hop : o0.op = .move x) (hg : o0.guard = none) (hm : P.follows .mixedOrders = true) (hB : tailB1 (o0 :: l).toArray n = true)
    (hQ' : ∀ c v a w, Q (.panic c) (a.put o0.dst v) w → Q (.panic c) a w)
    (h : ∀ W, W = w → wpQuiet P (o0 :: l).toArray (fun w' => ∃ g : Grown W, w' = g.val) (fun a' => ∀ w', Below W.heap.size W w' → wpList P (o0 :: l).toArray Q (l.drop n) a' w') (l.take n) (a.put o0.dst v0)) : (Code.region id (o0 :: l).toArray true).wp P Q a w := by
  subst hv0
  simp only [tailB1, Bool.and_eq_true, decide_eq_true_eq] at hB
  obtain ⟨⟨⟨⟨⟨⟨hsel, hn⟩, hs⟩, hc⟩, hr0⟩, hf0⟩, hlex⟩ := hB
  have hnl : n < l.length := by simp at hn; exact hn
  have htl : (l.take n).length = n := by simp; omega
  have hdl : (l.drop n).length = (o0 :: l).toArray.size - (n + 1) := by simp
  have h00 : (o0 :: l).toArray[0]? = some o0 := by simp
  have hr0' : 0 ∈ Region.ready .any (o0 :: l).toArray (Array.replicate (o0 :: l).toArray.size false) := by simpa using hr0
  have inv00 : HeadInv .any (o0 :: l).toArray (n + 1) (Array.replicate (o0 :: l).toArray.size false) :=
    ⟨by simp, fun j oj _ hl => (by rw [getD_replicate_false] at hl; cases hl), fun t _ ht => getD_in (by simpa using ht) (getD_replicate_false _ _)⟩
  have inv0 := inv00.set hr0' (by omega)
  have H := headQ_lex1 (md := .any) (C := fun w' => ∃ g : Grown w, w' = g.val) (g := (o0 :: l).toArray.size - (n + 1)) hsel hs hc hn (l.take n) 1 _ _ (by omega) (fun j hj => by
    have hj' : j < n := by rw [htl] at hj; exact hj
    simp [hj', Nat.add_comm 1 j]) (by rw [htl]; omega) inv0 (by rw [htl]; exact hlex) (h w rfl)
  refine wp_region_any hm ?_
  have K := any_of_headQ (Q' := Q) (g := (o0 :: l).toArray.size - (n + 1)) (fun listed a' w' hw hL => by
    obtain ⟨g, rfl⟩ := hw
    have := wpAny_of_seq (md := .any) (Q' := Q) (l.drop n) (n + 1) listed a' g.val (fun j => by rw [List.getElem?_drop, show n + 1 + j = (n + j) + 1 by omega]; simp) (by rw [hdl]; exact hL.1) (hL.2 _ g.bel)
    rwa [hdl] at this) _ _ _ { w with drawn := w.drawn + 1 } ⟨⟨_, (Below.refl _ _).drew⟩, rfl⟩ H
  have hsz : (o0 :: l).toArray.size = (l.take n).length + ((o0 :: l).toArray.size - (n + 1)) + 1 := by rw [htl]; simp; omega
  have T := wpAny_take (md := .any) (Q := Q) (v := a.eval x) h00 hsel hf0 hr0 (fun c a w => hQ' c _ a w) (.inl ⟨by unfold Region.wanted; rw [hg], fun w => by simp [execOp, hop]⟩) K
  rw [← hsz] at T
  exact T
end Go.Proofs.YtonafcifolddjaaGreatDoor
