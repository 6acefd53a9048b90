import Derived.Test.YtlbcnmcfljaijaaQF07
import Derived.Test.YtlbcnmcfljaijaaQF06
import Derived.Test.YtlbcnmcfljaijaaQF08
namespace Go.Proofs.Ytlbcnmcfljaijaa
open Go.RowKit

theorem grow_cell {w w' : World} {row : Option Nat} (hg : w.grownBy w' row) (a : Addr) (hlt : a.block < w.heap.size) (hne : some a.block ≠ row) : w'.cell? a = w.cell? a :=
  World.cell?_of_block (hg.block a.block hlt hne)
theorem step_append_with {P : Program} {ops : Array Oper} {o : Oper} {a : Act} {w : World} {K : Act → World → Prop} {Q : Exit → Act → World → Prop} {E : Prop}
    (hg : o.guard = none) (s2 : Operand) (v2 : Value) (_ : a.eval s2 = v2) (s x : Operand) (t : TypeId) (hop : o.op = Op.call { callee := Callee.builtin Builtin.append, args := #[s, x], argTypes := #[t, t] })
    (base : Nat) (e : TypeId) (i : TypeInfo) (z : Value) (size bytes : Nat) (h1 : P.underlying t = some (.slice e)) (h2 : P.info? e = some i) (h3 : i.zero = some z) (h4 : i.size = size) (h5 : i.bytes = bytes) (h6 : z.cells.size = size) (h7 : 0 < size)
    (v : Value) (n : Nat) (xs : List Value) (hs : a.eval s = v) (hown : w.ownsRow base e size v n xs)
    (ad : Addr) (m c : Nat) (news : List Value) (hx : a.eval x = .slice (some ad) m c) (hn : news.length = m * size) (hc : ∀ j u, news[j]? = some u → w.cell? (ad.add j) = some u) (h1c : ∀ u ∈ news, u.oneCell' = true)
    (b1 : n + m ≤ maxLen) (b2 : (n + m) * bytes ≤ 140737488355328) (hbase : base ≤ w.heap.size)
    (hK : ∀ v' w', w'.ownsRow base e size v' (n + m) (xs ++ news) → w.grownBy w' v.ownBlock → K (a.put o.dst v') w') :
    if Region.wanted o (yielded ops a.tmps) = true then Oper.wp P o a w K Q else E :=
  step_append_own hg s x t hop base e i z size bytes h1 h2 h3 h4 h5 h6 h7 v n xs hs hown ad m c news hx hn hc h1c b1 b2 hbase hK
theorem strs_cell (ls : List ByteArray) : ∀ u ∈ ls.map Value.string, u.oneCell' = true := by
  intro u hu
  obtain ⟨s, _, rfl⟩ := List.mem_map.1 hu
  rfl
theorem src_cells {w W' : World} {rb ro : Nat} {ls : List ByteArray} (hc : ∀ i (h : i < ls.length), w.cell? ⟨rb, ro + i, none⟩ = some (.string ls[i])) (hb : Below w.heap.size w W') (j : Nat) (u : Value) (h : (ls.map Value.string)[j]? = some u) : W'.cell? ((⟨rb, ro, none⟩ : Addr).add j) = some u := by
  rw [List.getElem?_map] at h
  obtain ⟨s, hs, rfl⟩ := Option.map_eq_some_iff.1 h
  obtain ⟨hj, rfl⟩ := List.getElem?_eq_some_iff.1 hs
  have h1 := hc j hj
  have h2 : W'.cell? ⟨rb, ro + j, none⟩ = some (.string ls[j]) := (hb.cell (p := ⟨rb, _, none⟩) (World.block_lt_of_cell? w _ h1)).trans h1
  have e : (⟨rb, ro, none⟩ : Addr).add j = ⟨rb, ro + j, none⟩ := by unfold Addr.add; by_cases hj0 : j = 0 <;> simp [hj0]
  rw [e]; exact h2
theorem wrap_i (x : Int) (h0 : -1000 ≤ x) (h1 : x ≤ 8589934592) : IntKind.i64.wrap x = x := by
  rw [IntKind.wrap_i64]
  omega
theorem cell_new (W : World) (v : Value) (t : TypeId) (k : Nat) (h : k = W.heap.size) : (W.alloc (.cells #[v] t)).cell? ⟨k, 0, none⟩ = some v := by
  subst h; simp
theorem cell_old (W : World) (o : Obj) (k : Nat) (h : k < W.heap.size) : (W.alloc o).cell? ⟨k, 0, none⟩ = W.cell? ⟨k, 0, none⟩ := World.cell?_alloc_past o k 0 h
theorem heap_new (W : World) (o : Obj) (k : Nat) (h : k = W.heap.size) : (W.alloc o).heap[k]? = some o := by
  subst h; show (W.heap.push o)[W.heap.size]? = _; simp
theorem heap_old (W : World) (o : Obj) (k : Nat) (h : k < W.heap.size) : (W.alloc o).heap[k]? = W.heap[k]? := Below.heap_alloc W o k h
theorem own_empty (W : World) (base e g : Nat) (hg : base ≤ g) (h : W.heap[g]? = some (.cells #[] e (0, 0))) : W.ownsRow base e 1 (.slice (some ⟨g, 0, none⟩) 0 0) 0 [] :=
  ⟨rfl, .inr ⟨g, 0, #[], rfl, hg, h, Nat.le_refl _, by unfold maxLen; omega, rfl, rfl⟩⟩
theorem one_new {W : World} {ad : Addr} {v : Value} (h : W.cell? ad = some v) : ∀ j u, ([v] : List Value)[j]? = some u → W.cell? (ad.add j) = some u := by
  intro j u hj
  match j, hj with
  | 0, hj => simp at hj; subst hj; simpa [Addr.add] using h
theorem one_cell (s : ByteArray) : ∀ u ∈ [Value.string s], u.oneCell' = true := by
  intro u hu; simp at hu; subst hu; rfl
theorem boxed0 (w : World) (n : Nd) (t : TypeId) : NodeAt (w.alloc (.cells #[.int .i64 n.op, .string n.name, .string n.peer, .int .i64 n.many, .int .i64 n.sort] t)) w.heap.size 0 n := by
  simp [NodeAt]
theorem recs_talk {n : Nd} {st : List Nd} (h : n.op ≠ 2) : recsOf (n :: st) = recsOf st := by simp [recsOf, h]
end Go.Proofs.Ytlbcnmcfljaijaa
namespace Go.Proofs.Ytlbcnmcfljaijaa
open Go.RowKit

end Go.Proofs.Ytlbcnmcfljaijaa
namespace Go.Proofs.Ytlbcnmcfljaijaa
open Go.RowKit

end Go.Proofs.Ytlbcnmcfljaijaa
namespace Go.Proofs.Ytlbcnmcfljaijaa
open Go.RowKit

end Go.Proofs.Ytlbcnmcfljaijaa
namespace Go.Proofs.Ytlbcnmcfljaijaa
open Go.RowKit

end Go.Proofs.Ytlbcnmcfljaijaa
namespace Go.Proofs.Ytlbcnmcfljaijaa
open Go.RowKit

end Go.Proofs.Ytlbcnmcfljaijaa
namespace Go.Proofs.Ytlbcnmcfljaijaa
open Go.RowKit

end Go.Proofs.Ytlbcnmcfljaijaa
namespace Go.Proofs.Ytlbcnmcfljaijaa
open Go.RowKit
attribute [local go_sem ↓] Go.wp_at_zero Go.wp_at_succ

def actsR (m : Mach) (s : Int) : List RAct := if machB m && inB s 0 ((m.states.length : Int) - 1) then actsV m s else []
theorem mach_80 {m : Mach} (h : machB m = true) : m.edges.length ≤ 80 := by
  simp [machB, headB] at h
  exact h.1.2.1
theorem actsR_len80 (m : Mach) (s : Int) : (actsR m s).length ≤ 80 := by
  unfold actsR
  split
  · rename_i h
    simp at h
    exact Nat.le_trans (actsV_len m s) (mach_80 h.1)
  · simp
theorem s_machineRight_at {q : Bool} {m : Mach} (hq : machB m = q) (v : Value) (w : World) (hf : m.fit) (hv : MachAt w v m) :
    Calls Try.prog 10 #[v] w fun e w' => e = .returned (.bool q) ∧ Below w.heap.size w w' := by subst hq; exact s_machineRight m v w hf hv
set_option maxHeartbeats 400000 in
theorem s_l04state {q : Bool} {m : Mach} {s : Int} (hq : inB s 0 ((m.states.length : Int) - 1) = q) (v : Value) (w : World) (hv : MachAt w v m) :
    Calls Try.prog 33 #[v, .int .i64 s] w fun e w' => e = .returned (.bool q) ∧ Below w.heap.size w w' := by
  obtain ⟨sv, ev, rfl, hs, he⟩ := hv
  have hsl := hs.lenm
  obtain ⟨sa, sc, rfl, -⟩ := hs
  obtain ⟨ea, ec, rfl, -⟩ := he
  have HQ := hide hq
  clear hq
  go_enter Try.func33, Try.ntmps33
  go_wp2_with (go_at_call 22; refine (ms_in_at HQ.out _).mono ?_; rintro e w' ⟨rfl, rfl⟩)
  go_ret
  exact ⟨rfl, malloc1 _ _⟩
end Go.Proofs.Ytlbcnmcfljaijaa
namespace Go.Proofs.Ytlbcnmcfljaijaa
open Go.RowKit

theorem less_irrefl : ∀ x : List UInt8, Op.bytesLess x x = false
  | [] => rfl
  | a :: x => by simp [Op.bytesLess, less_irrefl x]
theorem less_transM : ∀ x y z : List UInt8, Op.bytesLess x y = true → Op.bytesLess y z = true → Op.bytesLess x z = true
  | _, [], _, h, _ => by simp [Op.bytesLess] at h
  | _, _ :: _, [], _, h => by simp [Op.bytesLess] at h
  | [], _ :: _, _ :: _, _, _ => rfl
  | a :: x, b :: y, c :: z, h1, h2 => by
    simp only [Op.bytesLess, Bool.or_eq_true, Bool.and_eq_true, decide_eq_true_eq, beq_iff_eq] at h1 h2 ⊢
    rcases h1 with h1 | ⟨rfl, h1⟩
    · rcases h2 with h2 | ⟨rfl, h2⟩
      · exact .inl (UInt8.lt_trans h1 h2)
      · exact .inl h1
    · rcases h2 with h2 | ⟨rfl, h2⟩
      · exact .inl h2
      · exact .inr ⟨rfl, less_transM x y z h1 h2⟩
theorem mless_trans {a b c : REdge} (h1 : mlessE a b = true) (h2 : mlessE b c = true) : mlessE a c = true := by
  simp only [mlessE, Bool.or_eq_true, Bool.and_eq_true, decide_eq_true_eq, beq_iff_eq] at h1 h2 ⊢
  rcases h1 with h1 | ⟨e1, h1⟩
  · rcases h2 with h2 | ⟨e2, h2⟩
    · exact .inl (by omega)
    · exact .inl (by omega)
  · rcases h2 with h2 | ⟨e2, h2⟩
    · exact .inl (by omega)
    · exact .inr ⟨by omega, less_transM _ _ _ h1 h2⟩
theorem mless_ne {a b : REdge} (h : mlessE a b = true) (hs : a.src = b.src) (hl : a.label = b.label) : False := by
  simp only [mlessE, Bool.or_eq_true, Bool.and_eq_true, decide_eq_true_eq, beq_iff_eq] at h
  rcases h with h | ⟨_, h⟩
  · omega
  · rw [hl, less_irrefl] at h; cases h
theorem edge_next {m : Mach} (h : machB m = true) (i : Nat) (hi : i + 1 < m.edges.length) : mlessE m.edges[i] m.edges[i + 1] = true := by
  simp only [machB, Bool.and_eq_true] at h
  have h2 := List.all_eq_true.1 h.2.2 (i + 1) (List.mem_range.2 hi)
  rw [edgeOk, List.getElem?_eq_getElem hi] at h2
  simp only [Nat.add_sub_cancel, Bool.and_eq_true] at h2
  have h3 := h2.2
  rw [List.getElem?_eq_getElem (by omega)] at h3
  exact h3
theorem edges_rise {m : Mach} (h : machB m = true) (i : Nat) : ∀ d (hi : i + d + 1 < m.edges.length), mlessE (m.edges[i]'(by omega)) m.edges[i + d + 1] = true
  | 0, hi => edge_next h i hi
  | d + 1, hi => mless_trans (edges_rise h i d (by omega)) (edge_next h (i + d + 1) hi)
theorem edges_one {m : Mach} (h : machB m = true) (i j : Nat) (hi : i < m.edges.length) (hj : j < m.edges.length) (hs : m.edges[i].src = m.edges[j].src) (hl : m.edges[i].label = m.edges[j].label) : i = j := by
  rcases Nat.lt_trichotomy i j with h1 | h1 | h1
  · exfalso
    have := edges_rise h i (j - i - 1) (by omega)
    have e : i + (j - i - 1) + 1 = j := by omega
    simp only [e] at this
    exact mless_ne this hs hl
  · exact h1
  · exfalso
    have := edges_rise h j (i - j - 1) (by omega)
    have e : j + (i - j - 1) + 1 = i := by omega
    simp only [e] at this
    exact mless_ne this hs.symm hl.symm
theorem edge_med {m : Mach} (h : machB m = true) {e : REdge} (he : e ∈ m.edges) : medB m e = true := by
  simp only [machB, Bool.and_eq_true] at h
  obtain ⟨i, hi, rfl⟩ := List.getElem_of_mem he
  have h2 := List.all_eq_true.1 h.2.2 i (List.mem_range.2 hi)
  rw [edgeOk, List.getElem?_eq_getElem hi] at h2
  simp only [Bool.and_eq_true] at h2
  exact h2.1
theorem edge_bounds {m : Mach} (h : machB m = true) {e : REdge} (he : e ∈ m.edges) : 0 ≤ e.src ∧ e.src < (m.states.length : Int) ∧ 0 ≤ e.dst ∧ e.dst < (m.states.length : Int) ∧ 0 ≤ e.sort ∧ e.sort ≤ 2 := by
  have := edge_med h he
  simp [medB, inB] at this
  omega
theorem mach_40 {m : Mach} (h : machB m = true) : 1 ≤ m.states.length ∧ m.states.length ≤ 40 := by
  simp [machB, headB, inB] at h
  omega
theorem state_kind {m : Mach} (h : machB m = true) (s : Int) : 0 ≤ (stAt m s).kind ∧ (stAt m s).kind ≤ 2 := by
  unfold stAt
  cases hx : m.states[s.toNat]? with
  | none => simp
  | some x =>
    simp only [machB, Bool.and_eq_true] at h
    have h2 := List.all_eq_true.1 h.2.1 x (List.mem_of_getElem? hx)
    simp only [mstB] at h2
    simp only [Option.getD_some]
    split at h2
    · rename_i h3; simp at h3; omega
    · simp [inB] at h2; omega
def actEq (a b : RAct) : Bool := a.kind == b.kind && (a.peer.toList == b.peer.toList && (a.label.toList == b.label.toList && a.sort == b.sort))
theorem toList_inj {a b : ByteArray} (h : a.toList = b.toList) : a = b := by
  rw [Go.ByteArray.toList_eq, Go.ByteArray.toList_eq] at h
  apply ByteArray.ext
  exact Array.ext' h
theorem actEq_iff {a b : RAct} : actEq a b = true ↔ a = b := by
  constructor
  · intro h
    simp only [actEq, Bool.and_eq_true, beq_iff_eq] at h
    obtain ⟨h1, h2, h3, h4⟩ := h
    cases a; cases b
    simp at h1 h2 h3 h4
    rw [h1, toList_inj h2, toList_inj h3, h4]
  · rintro rfl
    simp [actEq]
def stepF (m : Mach) (s : Int) (a : RAct) : Int := match m.edges.find? (fun e => e.src == s && actEq a (actE m s e)) with
  | some e => e.dst
  | none => -1
theorem stepF_some {m : Mach} (h : machB m = true) {s : Int} {a : RAct} {e : REdge} (he : e ∈ m.edges) (hs : e.src = s) (ha : actE m s e = a) : stepF m s a = e.dst := by
  unfold stepF
  cases hf : m.edges.find? (fun e => e.src == s && actEq a (actE m s e)) with
  | none =>
    have := List.find?_eq_none.1 hf e he
    simp [hs, actEq_iff, ha] at this
  | some e' =>
    have h1 := List.find?_some hf
    have h2 := List.mem_of_find?_eq_some hf
    simp only [Bool.and_eq_true, beq_iff_eq, actEq_iff] at h1
    obtain ⟨i, hi, rfl⟩ := List.getElem_of_mem he
    obtain ⟨j, hj, rfl⟩ := List.getElem_of_mem h2
    have hl : m.edges[i].label = m.edges[j].label := by
      have := ha.trans h1.2
      simp only [actE, RAct.mk.injEq] at this
      exact this.2.2.1
    have hij := edges_one h i j hi hj (hs.trans h1.1.symm) hl
    subst hij
    rfl
theorem stepF_none {m : Mach} {s : Int} {a : RAct} (h : ∀ e ∈ m.edges, ¬ (e.src = s ∧ actE m s e = a)) : stepF m s a = -1 := by
  unfold stepF
  have : m.edges.find? (fun e => e.src == s && actEq a (actE m s e)) = none := by
    rw [List.find?_eq_none]
    intro e he h2
    simp only [Bool.and_eq_true, beq_iff_eq, actEq_iff] at h2
    exact h e he ⟨h2.1, h2.2.symm⟩
  rw [this]
end Go.Proofs.Ytlbcnmcfljaijaa
namespace Go.Proofs.Ytlbcnmcfljaijaa
open Go.RowKit

theorem act_equal (a b : RAct) (W : World) : (Op.equalIn 10000 34 (.agg #[.int .i64 a.kind, .string a.peer, .string a.label, .int .i64 a.sort]) (.agg #[.int .i64 b.kind, .string b.peer, .string b.label, .int .i64 b.sort])).run Try.prog W = .ok (actEq a b) W := by
  by_cases h1 : a.kind = b.kind
  · by_cases h2 : a.peer.toList = b.peer.toList
    · by_cases h3 : a.label.toList = b.label.toList
      · by_cases h4 : a.sort = b.sort
        all_goals
          go_simp
          simp [actEq, h1, h2, h3, h4]
      · go_simp
        simp [actEq, h1, h2, h3]
    · go_simp
      simp [actEq, h1, h2]
  · go_simp
    simp [actEq, h1]
end Go.Proofs.Ytlbcnmcfljaijaa
