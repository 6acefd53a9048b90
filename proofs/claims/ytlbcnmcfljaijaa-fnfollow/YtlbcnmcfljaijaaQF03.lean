import Derived.Test.YtlbcnmcfljaijaaQF01
import Derived.Test.YtlbcnmcfljaijaaQF00
import Derived.Laws.AppendOwn
import Derived.Maps.AppendAt
import Derived.Test.YtlbcnmcfljaijaaQF02
import Derived.Maps.OwnSet
import Derived.DeepKeys4
namespace Go.Proofs.Ytlbcnmcfljaijaa
open Go.RowKit

def hasB (ls : List ByteArray) (t : ByteArray) : Bool := ls.any fun s => s.toList == t.toList

def TextsAt (w : World) (v : Value) (ls : List ByteArray) : Prop :=
  ∃ ao cap, v = .slice ao ls.length cap ∧ ls.length ≤ cap ∧ ls.length ≤ 4294967296 ∧ (ls ≠ [] → ∃ b o, ao = some ⟨b, o, none⟩ ∧ ∀ i (h : i < ls.length), w.cell? ⟨b, o + i, none⟩ = some (.string ls[i]))
theorem TextsAt.carry {w w' : World} {v : Value} {ls : List ByteArray} (h : TextsAt w v ls) (hb : Below w.heap.size w w') : TextsAt w' v ls := by
  obtain ⟨ao, cap, h1, h2, h3, h4⟩ := h
  refine ⟨ao, cap, h1, h2, h3, fun hne => ?_⟩
  obtain ⟨b, o, e, hr⟩ := h4 hne
  refine ⟨b, o, e, fun i hi => ?_⟩
  exact (hb.cell (p := ⟨b, _, none⟩) (World.block_lt_of_cell? w _ (hr i hi))).trans (hr i hi)

theorem has_take {ls : List ByteArray} {t : ByteArray} {k : Nat} (hk : k < ls.length) (h : hasB (ls.take k) t = false) (he : (ls[k].toList == t.toList) = false) : hasB (ls.take (k + 1)) t = false := by
  rw [hasB, List.take_succ_eq_append_getElem hk, List.any_append]
  have : (ls.take k).any (fun s => s.toList == t.toList) = false := h
  simp [this, he] at *
theorem has_hit {ls : List ByteArray} {t : ByteArray} {k : Nat} (hk : k < ls.length) (he : (ls[k].toList == t.toList) = true) : hasB ls t = true := by
  rw [hasB, List.any_eq_true]
  exact ⟨ls[k], List.getElem_mem hk, he⟩

theorem texts_own {w : World} {base e : Nat} {v : Value} {ls : List ByteArray} (h : w.ownsRow base e 1 v ls.length (ls.map Value.string)) (hl : ls.length ≤ 4294967296) : TextsAt w v ls := by
  obtain ⟨_, hv⟩ := h
  rcases hv with ⟨rfl, h0⟩ | ⟨g, cap, cur, rfl, hg, hh, hn, hcap, hsz, htake⟩
  · have : ls = [] := List.length_eq_zero_iff.1 h0
    subst this
    exact ⟨none, 0, rfl, Nat.le_refl _, hl, fun h => absurd rfl h⟩
  · refine ⟨_, cap, rfl, hn, hl, fun _ => ⟨g, 0, rfl, fun i hi => ?_⟩⟩
    have h1 : cur.toList[i]? = some (.string ls[i]) := by
      have h2 : (cur.toList.take (ls.length * 1))[i]? = (ls.map Value.string)[i]? := by rw [htake]
      rw [List.getElem?_take, if_pos (by omega)] at h2
      rw [h2]
      simp [hi]
    have h2 : cur[i]? = some (.string ls[i]) := by rw [← h1]; simp
    simp only [World.cell?, hh]
    simpa using h2
theorem own_below {w w' : World} {base e size : Nat} {v : Value} {n : Nat} {xs : List Value} (h : w.ownsRow base e size v n xs) (hb : Below w.heap.size w w') : w'.ownsRow base e size v n xs := by
  obtain ⟨h1, hv⟩ := h
  refine ⟨h1, ?_⟩
  rcases hv with hv | ⟨g, cap, cur, rfl, hg, hh, r⟩
  · exact .inl hv
  · have hlt : g < w.heap.size := by
      rcases Nat.lt_or_ge g w.heap.size with h | h
      · exact h
      · rw [Array.getElem?_eq_none h] at hh; exact absurd hh (by simp)
    exact .inr ⟨g, cap, cur, rfl, hg, by rw [hb.block g hlt]; exact hh, r⟩
theorem own_row {w : World} {base e size : Nat} {v : Value} {n : Nat} {xs : List Value} (h : w.ownsRow base e size v n xs) : ∀ k, v.ownBlock = some k → base ≤ k := by
  obtain ⟨_, hv⟩ := h
  rcases hv with ⟨rfl, _⟩ | ⟨g, cap, cur, rfl, hg, r⟩
  · intro k hk; cases hk
  · intro k hk; cases hk; exact hg

set_option maxHeartbeats 400000 in
theorem s_among (ls : List ByteArray) (t : ByteArray) (v : Value) (w : World) (hv : TextsAt w v ls) :
    Calls Try.prog 69 #[v, .string t] w fun e w' => e = .returned (.bool (hasB ls t)) ∧ w' = w := by
  obtain ⟨ao, cap, rfl, hc, hm, hr⟩ := hv
  have HR := hide hr
  clear hr
  go_enter Try.func69, Try.ntmps69
  go_wp2_with fail
  go_loop [5] (fun i => ∃ k : Nat, k ≤ ls.length ∧ i = .int .i64 k ∧ hasB (ls.take k) t = false) (fun i => ls.length - (intOf i).toNat)
  case atStart => exact ⟨0, Nat.zero_le _, rfl, rfl⟩
  case round =>
    obtain ⟨k, hk, rfl, hall⟩ := hrel
    have HA := hide hall
    clear hall
    by_cases hlt : k < ls.length
    · obtain ⟨b, o, rfl, hcell⟩ := HR.out (by intro h; simp [h] at hlt)
      have hck := hcell k hlt
      obtain ⟨s, hs⟩ : ∃ s, s = ls[k] := ⟨_, rfl⟩
      rw [← hs] at hck
      have HSs := hide hs
      clear hcell hs
      cases heq : (s.toList == t.toList)
      all_goals
        have HE := hide heq
      · go_wp2_with fail
        go_round
        case rel => exact ⟨k + 1, by omega, by go_num, has_take hlt HA.out (by rw [← HSs.out]; exact HE.out)⟩
        case measure => simp [intOf]; omega
      · go_wp2_with fail
        go_ret
        exact ⟨ret_bool (has_hit hlt (by rw [← HSs.out]; exact HE.out)), rfl⟩
    · go_wp2_with fail
      go_ret
      refine ⟨ret_bool ?_, rfl⟩
      have := HA.out
      rwa [List.take_of_length_le (by omega)] at this

end Go.Proofs.Ytlbcnmcfljaijaa
namespace Go.Proofs.Ytlbcnmcfljaijaa
open Go.RowKit
theorem Apart.cell' {w w' : World} {l : List Nat} (h : Apart w w' l) {b o : Nat} {x : Value} (hc : w.cell? ⟨b, o, none⟩ = some x) (hl : b ∉ l) : w'.cell? ⟨b, o, none⟩ = some x :=
  (World.cell?_of_block (a := ⟨b, o, none⟩) (h.block b (World.block_lt_of_cell? w _ hc) hl)).trans hc
theorem Apart.frozen' {w w' : World} {l : List Nat} (h : Apart w w' l) {b o : Nat} {x : Bool} (hb : b < w.heap.size) (hc : w.frozen? ⟨b, o, none⟩ = x) (hl : b ∉ l) : w'.frozen? ⟨b, o, none⟩ = x :=
  (World.frozen?_of_block (a := ⟨b, o, none⟩) (h.block b hb hl)).trans hc
theorem Apart.weak {w w' : World} {l : List Nat} (h : Apart w w' []) : Apart w w' l := ⟨h.os, h.tape, h.output, h.size, fun b hb _ => h.block b hb (by simp)⟩
theorem Apart.same {w w' : World} {b : Nat} (h : Apart w w' ([b] ++ [b])) : Apart w w' [b] := ⟨h.os, h.tape, h.output, h.size, fun k hk hn => h.block k hk (by simp at hn; simp [hn])⟩
theorem Apart.setCell {w w' : World} {b : Nat} (h : Apart w w' [b]) (o : Nat) (x : Value) : Apart w (w'.setCell ⟨b, o, none⟩ x) [b] :=
  ⟨h.os, h.tape, h.output, by simp; exact h.size, fun k hk hn => (Below.heap_setCell w' ⟨b, o, none⟩ x k (fun e => hn (by simp [e]))).trans (h.block k hk hn)⟩
end Go.Proofs.Ytlbcnmcfljaijaa
namespace Go.Proofs.Ytlbcnmcfljaijaa
open Go.RowKit

theorem flat_get {α β : Type} (f : α → List β) (n : Nat) (hf : ∀ x, (f x).length = n) : ∀ (l : List α) (j : Nat) (hj : j < l.length) (i : Nat), i < n → (l.flatMap f)[j * n + i]? = (f l[j])[i]?
  | x :: l, 0, _, i, hi => by
    rw [List.flatMap_cons, List.getElem?_append_left (by rw [hf]; omega)]
    simp
  | x :: l, j + 1, hj, i, hi => by
    rw [List.flatMap_cons, List.getElem?_append_right (by rw [hf, Nat.succ_mul]; omega), hf, show (j + 1) * n + i - n = j * n + i by rw [Nat.succ_mul]; omega]
    exact flat_get f n hf l j (by simpa using hj) i hi
theorem flat_len {α β : Type} (f : α → List β) (n : Nat) (hf : ∀ x, (f x).length = n) : ∀ (l : List α), (l.flatMap f).length = l.length * n
  | [] => by simp
  | x :: l => by rw [List.flatMap_cons, List.length_append, hf, flat_len f n hf l, List.length_cons, Nat.succ_mul, Nat.add_comm]
theorem owns_cell {w : World} {base e size n : Nat} {v : Value} {xs : List Value} (h : w.ownsRow base e size v n xs) {g c : Nat} (hv : v = .slice (some ⟨g, 0, none⟩) n c) (k : Nat) (x : Value) (hk : xs[k]? = some x) : w.cell? ⟨g, k, none⟩ = some x := by
  obtain ⟨hl, hh⟩ := h
  rcases hh with ⟨rfl, _⟩ | ⟨g', cap, cur, rfl, _, hblk, _, _, _, hcur⟩
  · cases hv
  · injection hv with h1 _ h3
    injection h1 with h1
    injection h1 with h1
    subst h1
    have hkl : k < n * size := by
      rw [← hl]
      exact (List.getElem?_eq_some_iff.1 hk).1
    rw [← hcur, List.getElem?_take, if_pos hkl] at hk
    simp only [World.cell?, hblk]
    simpa using hk
theorem owns_fresh {w : World} {base e size n : Nat} {v : Value} {xs : List Value} (h : w.ownsRow base e size v n xs) : Fresh base w v := by
  obtain ⟨_, hh⟩ := h
  rcases hh with ⟨rfl, _⟩ | ⟨g, cap, cur, rfl, hg, hblk, _⟩
  · exact ⟨by simp [vblocks, cellBlocks], by simp [vblocks, cellBlocks], by simp [vblocks, cellBlocks], by simp [vblocks, cellBlocks]⟩
  · refine ⟨by simp [vblocks, cellBlocks]; exact hg, by simp [vblocks, cellBlocks]; exact (Array.getElem?_eq_some_iff.1 hblk).1, ?_, by simp [vblocks, cellBlocks]⟩
    intro b hb j
    simp [vblocks, cellBlocks] at hb
    subst hb
    simp [World.frozen?, hblk]
theorem owns_shape {w : World} {base e size n : Nat} {v : Value} {xs : List Value} (h : w.ownsRow base e size v n xs) : ∃ p c, v = .slice p n c := by
  obtain ⟨_, hh⟩ := h
  rcases hh with ⟨rfl, h0⟩ | ⟨gb, cap, cur, rfl, _⟩
  · exact ⟨none, 0, by rw [h0]⟩
  · exact ⟨_, _, rfl⟩
theorem owns_nil (w : World) (base e size : Nat) : w.ownsRow base e size (.slice none 0 0) 0 [] := ⟨by simp, .inl ⟨rfl, rfl⟩⟩
theorem owns_empty (w : World) (base e size g : Nat) (hg : base ≤ g) (hb : w.heap[g]? = some (.cells #[] e (0, 0))) : w.ownsRow base e size (.slice (some ⟨g, 0, none⟩) 0 0) 0 [] :=
  ⟨by simp, .inr ⟨g, 0, #[], rfl, hg, hb, Nat.le_refl _, by simp [maxLen], by simp, by simp⟩⟩
theorem owns_keep {w w' : World} {base e size n : Nat} {v : Value} {xs : List Value} {l : List Nat} (h : w.ownsRow base e size v n xs) (ha : Apart w w' l) (hd : ∀ b ∈ vblocks v, b ∉ l) : w'.ownsRow base e size v n xs := by
  obtain ⟨hl, hh⟩ := h
  refine ⟨hl, ?_⟩
  rcases hh with hh | ⟨g, cap, cur, rfl, hg, hblk, hr⟩
  · exact .inl hh
  · exact .inr ⟨g, cap, cur, rfl, hg, (ha.block g (Array.getElem?_eq_some_iff.1 hblk).1 (hd g (by simp [vblocks, cellBlocks]))).trans hblk, hr⟩
theorem owns_below {w w' : World} {base e size n : Nat} {v : Value} {xs : List Value} (h : w.ownsRow base e size v n xs) (hb : Below w.heap.size w w') : w'.ownsRow base e size v n xs :=
  owns_keep h (below_apart hb) (fun _ _ => by simp)
end Go.Proofs.Ytlbcnmcfljaijaa
namespace Go.Proofs.Ytlbcnmcfljaijaa
open Go.RowKit

theorem c3_0 (w : World) (A B C : Obj) : Below (w.alloc A).heap.size (w.alloc A) (((w.alloc A).alloc B).alloc C) := (malloc1 _ _).trans ((malloc1 _ _).mono (by simp))
theorem c3_1 (w : World) (A B C : Obj) : Below ((w.alloc A).alloc B).heap.size ((w.alloc A).alloc B) (((w.alloc A).alloc B).alloc C) := malloc1 _ _
theorem c3_2 (w : World) (A B : Obj) (cs : Array Value) (t : TypeId) (off : Nat) (v : Value) (h : cs[off]? = some v) : (((w.alloc A).alloc B).alloc (.cells cs t)).cell? ⟨w.heap.size + 1 + 1, off, none⟩ = some v := by
  have e : (((w.alloc A).alloc B).alloc (.cells cs t)).heap[w.heap.size + 1 + 1]? = some (.cells cs t) := mheap_new _ _ _ (by simp)
  simp only [World.cell?]
  rw [e]
  simpa using h
structure Mach where
  states : List RState
  edges : List REdge
  start : Int
def MachAt (w : World) (v : Value) (m : Mach) : Prop :=
  ∃ sv ev, v = .agg #[sv, ev, .int .i64 m.start] ∧ RStateSl w w.heap.size sv m.states ∧ REdgeSl w w.heap.size ev m.edges
theorem MachAt.carry {w w' : World} {v : Value} {m : Mach} (h : MachAt w v m) (hb : Below w.heap.size w w') : MachAt w' v m := by
  obtain ⟨sv, ev, e, h1, h2⟩ := h
  exact ⟨sv, ev, e, (h1.carry hb).up hb.size, (h2.carry hb).up hb.size⟩
def Mach.fit (m : Mach) : Prop := (∀ x ∈ m.states, x.fit) ∧ (∀ x ∈ m.edges, x.fit) ∧ m.states.length ≤ 1048576 ∧ m.edges.length ≤ 1048576
structure MachArg (w : World) (sa : Option Addr) (sc : Nat) (ea : Option Addr) (ec : Nat) (m : Mach) : Prop where
  sok : ∀ x ∈ m.states, x.ok
  eok : ∀ x ∈ m.edges, x.ok
  sl : m.states.length ≤ maxLen
  el : m.edges.length ≤ maxLen
  sr : m.states ≠ [] → ∃ b o, sa = some ⟨b, o, none⟩ ∧ b < w.heap.size ∧ RStates w b o m.states
  er : m.edges ≠ [] → ∃ b o, ea = some ⟨b, o, none⟩ ∧ b < w.heap.size ∧ REdges w b o m.edges
theorem MachArg.carry {w w' : World} {sa : Option Addr} {sc : Nat} {ea : Option Addr} {ec : Nat} {m : Mach} (h : MachArg w sa sc ea ec m) (hb : Below w.heap.size w w') : MachArg w' sa sc ea ec m := by
  refine ⟨h.sok, h.eok, h.sl, h.el, fun hne => ?_, fun hne => ?_⟩
  · obtain ⟨b, o, e, hlt, hr⟩ := h.sr hne
    exact ⟨b, o, e, Nat.lt_of_lt_of_le hlt hb.size, hr.carry hlt hb⟩
  · obtain ⟨b, o, e, hlt, hr⟩ := h.er hne
    exact ⟨b, o, e, Nat.lt_of_lt_of_le hlt hb.size, hr.carry hlt hb⟩
def machV (sa : Option Addr) (sc : Nat) (ea : Option Addr) (ec : Nat) (m : Mach) : Value := .agg #[.slice sa m.states.length sc, .slice ea m.edges.length ec, .int .i64 m.start]

end Go.Proofs.Ytlbcnmcfljaijaa
namespace Go.Proofs.Ytlbcnmcfljaijaa
open Go.RowKit

end Go.Proofs.Ytlbcnmcfljaijaa
namespace Go.Proofs.Ytlbcnmcfljaijaa
open Go.RowKit

end Go.Proofs.Ytlbcnmcfljaijaa
namespace Go.Proofs.Ytlbcnmcfljaijaa
open Go.RowKit Go.ChangeShapes Go.WideShapes

def Nums (w : World) (b o : Nat) (l : List Int) : Prop := ∀ j (h : j < l.length), w.cell? ⟨b, o + j, none⟩ = some (.int .i64 l[j])
theorem Nums.carry {w w' : World} {b B o : Nat} {l : List Int} (h : Nums w b o l) (hB : b < B) (hb : Below B w w') : Nums w' b o l :=
  fun j hj => (hb.cell (p := ⟨b, o + j, none⟩) hB).trans (h j hj)
def NumSl (w : World) (B : Nat) (v : Value) (l : List Int) : Prop :=
  ∃ ao cap, v = .slice ao l.length cap ∧ l.length ≤ cap ∧ l.length ≤ 4294967296 ∧ (l ≠ [] → ∃ b o, ao = some ⟨b, o, none⟩ ∧ b < B ∧ Nums w b o l)
theorem NumSl.carry {w w' : World} {B : Nat} {v : Value} {l : List Int} (h : NumSl w B v l) (hb : Below B w w') : NumSl w' B v l := by
  obtain ⟨ao, cap, h1, h2, h3, h4⟩ := h
  refine ⟨ao, cap, h1, h2, h3, fun hne => ?_⟩
  obtain ⟨b, o, e, hlt, hr⟩ := h4 hne
  exact ⟨b, o, e, hlt, hr.carry hlt hb⟩
theorem NumSl.up {w : World} {B B' : Nat} {v : Value} {l : List Int} (h : NumSl w B v l) (hB : B ≤ B') : NumSl w B' v l := by
  obtain ⟨ao, cap, h1, h2, h3, h4⟩ := h
  refine ⟨ao, cap, h1, h2, h3, fun hne => ?_⟩
  obtain ⟨b, o, e, hlt, hr⟩ := h4 hne
  exact ⟨b, o, e, by omega, hr⟩
theorem NumSl.on {w w' : World} {v : Value} {l : List Int} (h : NumSl w w.heap.size v l) (hb : Below w.heap.size w w') : NumSl w' w'.heap.size v l := (h.carry hb).up hb.size
theorem NumSl.shape {w : World} {B : Nat} {v : Value} {l : List Int} (h : NumSl w B v l) : ∃ p c, v = .slice p l.length c := by
  obtain ⟨ao, cap, h1, _⟩ := h
  exact ⟨ao, cap, h1⟩
theorem Try.infoI64 : (Try.prog.info? 2).map (fun i => (i.zero, i.size, i.bytes)) = some (some (.int .i64 0), 1, 8) := by kernel_rfl
end Go.Proofs.Ytlbcnmcfljaijaa
namespace Go.Proofs.Ytlbcnmcfljaijaa
open Go.RowKit

section
variable {P : Program} {ops : Array Oper} {md : Region.Mode} {C : World → Prop}
def sinkB1 (md : Region.Mode) (ops : Array Oper) (n : Nat) : Bool :=
  (List.range n).all fun i => i == 0 || (List.range (n + 1)).any fun j => decide (i < j) && Region.waitsFor md ops j i
theorem tail_waits1 {n : Nat} {listed : Array Bool} (hs : sinkB1 md ops n = true) (hc : Region.chainB md ops n = true) (hn : n < ops.size) (inv : HeadInv md ops n listed) :
    ∀ (d i : Nat), n - i = d → 0 < i → i < n → listed.getD i true = false → ∀ t, n ≤ t → t ∉ Region.ready md ops listed := by
  intro d
  induction d using Nat.strongRecOn with
  | _ d ih =>
    intro i hd hi0 hi hun t ht hr
    obtain ⟨_, ot, hot, hall⟩ := mem_ready.1 hr
    have htlt : t < ops.size := (Array.getElem?_eq_some_iff.1 hot).1
    by_cases htn : t = n
    · subst htn
      have h1 := List.all_eq_true.1 hs i (List.mem_range.2 hi)
      rw [Bool.or_eq_true] at h1
      rcases h1 with h1 | h1
      · simp at h1; omega
      obtain ⟨j, hj, hj2⟩ := List.any_eq_true.1 h1
      simp only [Bool.and_eq_true, decide_eq_true_eq] at hj2
      obtain ⟨oj, hoj, e, he, hb, hon⟩ := Region.waitsFor_spec hj2.2
      have hjle : j ≤ t := by have := List.mem_range.1 hj; omega
      by_cases hjt : j = t
      · subst hjt
        have : oj = ot := Option.some.inj (hoj.symm.trans hot)
        subst this
        have h2 := hall e he hb
        rw [hon, getD_both hun] at h2
        cases h2
      · cases hl : listed.getD j false with
        | true =>
          have h2 := inv.closed j oj hoj hl e he hb
          rw [hon, getD_both hun] at h2
          cases h2
        | false =>
          have hjs : j < listed.size := by rw [inv.size]; omega
          exact ih (t - j) (by omega) j rfl (by omega) (by omega) (getD_in hjs hl) t (Nat.le_refl _) hr
    · have h1 := List.all_eq_true.1 hc t (List.mem_range.2 htlt)
      simp only [Bool.or_eq_true, decide_eq_true_eq] at h1
      rcases h1 with h1 | h1
      · omega
      · obtain ⟨o', ho', e, he, hb, hon⟩ := Region.waitsFor_spec h1
        have : o' = ot := Option.some.inj (ho'.symm.trans hot)
        subst this
        have h2 := hall e he hb
        rw [hon, getD_both (inv.tail (t - 1) (by omega) (by omega))] at h2
        cases h2
theorem headQ_first1 {n i : Nat} {oi : Oper} {v : Value} {L : Array Bool → Act → Prop} (hi : ops[i]? = some oi) (hsel : ∀ (j : Nat) (o : Oper) cs b, ops[j]? = some o → o.op ≠ .select cs b)
    (hs : sinkB1 md ops n = true) (hc : Region.chainB md ops n = true) (hn : n < ops.size) (hi0 : 0 < i) (hin : i < n)
    (hdone : ∀ listed a, L listed a → ∀ j ∈ Region.ready md ops listed, n ≤ j) (f : Nat) :
    ∀ (listed : Array Bool) (a : Act), HeadInv md ops n listed →
      (∀ j oj, ops[j]? = some oj → j ≠ i → listed.getD j true = false → (∀ e ∈ oj.after, Region.binds md e = true → e.on ≠ i) → oi.apart ops oj = true) →
      i ∈ Region.ready md ops listed → YieldsIn P ops C oi v a →
      headQ P md ops C n L f (listed.setIfInBounds i true) (a.put oi.dst v) → headQ P md ops C n L (f + 1) listed a := by
  induction f with
  | zero =>
    intro listed a inv _ hr hy H
    refine ⟨fun h => (by rw [h] at hr; cases hr), fun j hj => ?_⟩
    have hjn : j < n := Nat.lt_of_not_le fun h => tail_waits1 hs hc hn inv _ i rfl hi0 hin (mem_ready.1 hr).1 j h hj
    refine ⟨hjn, ?_⟩
    by_cases hji : j = i
    · subst hji; exact hy.qOp hi H
    · exact absurd (hdone _ _ H j (ready_mono hj hji)) (by omega)
  | succ f ih =>
    intro listed a inv hfree hr hy H
    refine ⟨fun h => (by rw [h] at hr; cases hr), fun j hj => ?_⟩
    have hun := (mem_ready.1 hr).1
    have hjn : j < n := Nat.lt_of_not_le fun h => tail_waits1 hs hc hn inv _ i rfl hi0 hin hun j h hj
    refine ⟨hjn, ?_⟩
    by_cases hji : j = i
    · subst hji; exact hy.qOp hi H
    · obtain ⟨hjun, oj, hoj, hall⟩ := mem_ready.1 hj
      have hnot : ∀ e ∈ oj.after, Region.binds md e = true → e.on ≠ i := fun e he hb heq => by
        have h1 := hall e he hb
        rw [heq, getD_both hun] at h1
        cases h1
      have h2 := qOp_put hoj (hfree j oj hoj hji hjun hnot) (fun cs b => hsel i oi cs b hi) (fun cs b => hsel j oj cs b hoj) hy (H.2 j (ready_mono hj hji)).2
      refine qOp_mono (fun a' h3 => ih (listed.setIfInBounds j true) a' (inv.set hj hjn) (fun k ok hk hki hk' hno => ?_) (ready_mono hr (Ne.symm hji)) h3.1 ?_) h2
      · refine hfree k ok hk hki ?_ hno
        by_cases hjk : j = k
        · subst hjk; exact hjun
        · rwa [getD_set_ne true hjk] at hk'
      · rw [Array.setIfInBounds_comm _ _ hji]
        exact h3.2
theorem headQ_lex1 {n g : Nat} {Lq : Act → Prop} (hsel : Region.noSelect ops = true) (hs : sinkB1 md ops n = true) (hc : Region.chainB md ops n = true) (hn : n < ops.size) :
    ∀ (l : List Oper) (k : Nat) (listed : Array Bool) (a : Act), 0 < k → (∀ j, j < l.length → l[j]? = ops[k + j]?) → k + l.length = n → HeadInv md ops n listed →
    Region.lexHead md ops g l.length k listed = true → wpQuiet P ops C Lq l a →
    headQ P md ops C n (fun listed' a' => Region.seqB md ops g n listed' = true ∧ Lq a') l.length listed a
  | [], k, listed, a, _, _, hk, _, hB, h => by
    have e : k = n := by simpa using hk
    subst e
    exact ⟨by simpa [Region.lexHead] using hB, h⟩
  | o :: l, k, listed, a, hk0, hl, hk, inv, hB, h => by
    have h0 : ops[k]? = some o := by simpa using (hl 0 (by simp)).symm
    simp only [List.length_cons, Region.lexHead, Bool.and_eq_true] at hB
    have hkn : k < n := by simp only [List.length_cons] at hk; omega
    have hr : k ∈ Region.ready md ops listed := by simpa using hB.1.1
    obtain ⟨v, hy, hK⟩ := yieldsIn_of_qOp h0 (show qOp P ops C k (wpQuiet P ops C Lq l) a by unfold qOp; simp only [h0]; exact h)
    exact headQ_first1 h0 (Region.noSelect_spec hsel) hs hc hn hk0 hkn (fun _ _ hL => seqB_ready hL.1) l.length listed a inv (Region.free_spec h0 hB.1.2) hr hy
      (headQ_lex1 hsel hs hc hn l (k + 1) _ _ (by omega) (fun j hj => by have := hl (j + 1) (by simp; omega); simpa [Nat.add_assoc, Nat.add_comm 1 j] using this) (by simp only [List.length_cons] at hk; omega) (inv.set hr hkn) hB.2 hK)
end
def tailB1 (ops : Array Oper) (n : Nat) : Bool :=
  Region.noSelect ops && decide (n + 1 < ops.size) && sinkB1 .any ops (n + 1) && Region.chainB .any ops (n + 1) && (Region.ready .any ops (Array.replicate ops.size false)).contains 0 && Region.free .any ops (Array.replicate ops.size false) 0 && Region.lexHead .any ops (ops.size - (n + 1)) n 1 ((Array.replicate ops.size false).setIfInBounds 0 true)
theorem wp_region_tail1 {P : Program} {id : Nat} {Q : Exit → Act → World → Prop} {a : Act} {w : World} {o0 : Oper} {l : List Oper} (n : Nat) (x : Operand) (v0 : Value) (hv0 : a.eval x = v0) (hop : o0.op = .move x) (hg : o0.guard = none) (hm : P.follows .mixedOrders = true) (hB : tailB1 (o0 :: l).toArray n = true)
    (hQ' : ∀ c v a w, Q (.panic c) (a.put o0.dst v) w → Q (.panic c) a w)
    (h : ∀ W, W = w → wpQuiet P (o0 :: l).toArray (fun w' => ∃ g : Grown W, w' = g.val) (fun a' => ∀ w', Below W.heap.size W w' → wpList P (o0 :: l).toArray Q (l.drop n) a' w') (l.take n) (a.put o0.dst v0)) : (Code.region id (o0 :: l).toArray true).wp P Q a w := by
  subst hv0
  simp only [tailB1, Bool.and_eq_true, decide_eq_true_eq] at hB
  obtain ⟨⟨⟨⟨⟨⟨hsel, hn⟩, hs⟩, hc⟩, hr0⟩, hf0⟩, hlex⟩ := hB
  have hnl : n < l.length := by simp at hn; exact hn
  have htl : (l.take n).length = n := by simp; omega
  have hdl : (l.drop n).length = (o0 :: l).toArray.size - (n + 1) := by simp
  have h00 : (o0 :: l).toArray[0]? = some o0 := by simp
  have hr0' : 0 ∈ Region.ready .any (o0 :: l).toArray (Array.replicate (o0 :: l).toArray.size false) := by simpa using hr0
  have inv00 : HeadInv .any (o0 :: l).toArray (n + 1) (Array.replicate (o0 :: l).toArray.size false) :=
    ⟨by simp, fun j oj _ hl => (by rw [getD_replicate_false] at hl; cases hl), fun t _ ht => getD_in (by simpa using ht) (getD_replicate_false _ _)⟩
  have inv0 := inv00.set hr0' (by omega)
  have H := headQ_lex1 (md := .any) (C := fun w' => ∃ g : Grown w, w' = g.val) (g := (o0 :: l).toArray.size - (n + 1)) hsel hs hc hn (l.take n) 1 _ _ (by omega) (fun j hj => by
    have hj' : j < n := by rw [htl] at hj; exact hj
    simp [hj', Nat.add_comm 1 j]) (by rw [htl]; omega) inv0 (by rw [htl]; exact hlex) (h w rfl)
  refine wp_region_any hm ?_
  have K := any_of_headQ (Q' := Q) (g := (o0 :: l).toArray.size - (n + 1)) (fun listed a' w' hw hL => by
    obtain ⟨g, rfl⟩ := hw
    have := wpAny_of_seq (md := .any) (Q' := Q) (l.drop n) (n + 1) listed a' g.val (fun j => by rw [List.getElem?_drop, show n + 1 + j = (n + j) + 1 by omega]; simp) (by rw [hdl]; exact hL.1) (hL.2 _ g.bel)
    rwa [hdl] at this) _ _ _ { w with drawn := w.drawn + 1 } ⟨⟨_, (Below.refl _ _).drew⟩, rfl⟩ H
  have hsz : (o0 :: l).toArray.size = (l.take n).length + ((o0 :: l).toArray.size - (n + 1)) + 1 := by rw [htl]; simp; omega
  have T := wpAny_take (md := .any) (Q := Q) (v := a.eval x) h00 hsel hf0 hr0 (fun c a w => hQ' c _ a w) (.inl ⟨by unfold Region.wanted; rw [hg], fun w => by simp [execOp, hop]⟩) K
  rw [← hsz] at T
  exact T
end Go.Proofs.Ytlbcnmcfljaijaa
namespace Go.Proofs.Ytlbcnmcfljaijaa
open Go.RowKit

theorem RActSl.sep {w w' : World} {v : Value} {x : List RAct} {l : List Nat} (h : RActSl w w.heap.size v x) (ha : Apart w w' l) (hd : ∀ b ∈ vblocks v, b ∉ l) : RActSl w' w'.heap.size v x := by
  have H := h
  obtain ⟨a1, c1, rfl, _⟩ := h
  exact H.keep ha.size (fun b hb hlt => ha.block b hlt (hd b ((own_blocks rfl).1 hb)))
theorem RActSl.far {w w' : World} {v : Value} {x : List RAct} {l : List Nat} (h : RActSl w w.heap.size v x) (ha : Apart w w' l) (hd : ∀ b ∈ l, w.heap.size ≤ b) : RActSl w' w'.heap.size v x := by
  have H := h
  obtain ⟨a1, c1, rfl, _⟩ := h
  exact H.keep ha.size (fun b hb hlt => ha.block b hlt (fun hm => absurd (hd b hm) (by omega)))
theorem RActSl.shape {w : World} {B : Nat} {v : Value} {x : List RAct} (h : RActSl w B v x) : ∃ p c, v = .slice p x.length c := by
  obtain ⟨a1, c1, e, _⟩ := h
  exact ⟨a1, c1, e⟩
end Go.Proofs.Ytlbcnmcfljaijaa
namespace Go.Proofs.Ytlbcnmcfljaijaa
open Go.RowKit Go.Maps

def turnV (f : Int) (a : RAct) : Value := .agg #[.int .i64 f, .int .i64 a.kind, .string a.peer, .string a.label, .int .i64 a.sort]
def i64B (z : Int) : Prop := -9223372036854775808 ≤ z ∧ z ≤ 9223372036854775807
def RAct.rng (a : RAct) : Prop := i64B a.kind ∧ i64B a.sort
theorem i64_wf {z : Int} (h : i64B z) : (Lit.int .i64 z).wf = true := by
  simp [Lit.wf, IntKind.min, IntKind.max, IntKind.signed, IntKind.bits]
  exact h
theorem Try.laidOutK : laidOutB Try.prog = true := by kernel_rfl
theorem Try.turnRow : (76 : TypeId) < Try.prog.types.size := of_decide_eq_true (by kernel_rfl)
theorem Try.turnCells : Try.prog.cellsOf 76 = 5 := by kernel_rfl
theorem Try.actCells : Try.prog.cellsOf 34 = 4 := by kernel_rfl
theorem Try.i64Cells : Try.prog.cellsOf 2 = 1 := by kernel_rfl
theorem Try.strCells : Try.prog.cellsOf 9 = 1 := by kernel_rfl
theorem Try.turnType : Try.prog.keyType 76 = true := by kernel_rfl
theorem turn_keyed : Keyed Try.prog 76 := Keyed.of_law (deep_law_laid Try.laidOutK (m := 4) (by omega) Try.turnRow (by kernel_rfl) (by kernel_rfl))
theorem Try.typesTwo : 2 < Try.prog.types.size := of_decide_eq_true (by kernel_rfl)
theorem Try.typesMany : ∃ d, Try.prog.types.size + 1 = d + 3 := by
  have h := Try.typesTwo
  generalize Try.prog.types.size = n at h
  exact ⟨n - 2, by omega⟩
set_option maxRecDepth 10000 in
theorem turn_key (f : Int) (a : RAct) (hf : i64B f) (hr : a.rng) (hok : a.ok) : ∃ kl, keyOf Try.prog 76 (turnV f a) = some kl := by
  obtain ⟨d, hd⟩ := Try.typesMany
  have h1 := i64_wf hf
  have h2 := i64_wf hr.1
  have h3 := i64_wf hr.2
  have hform : (turnV f a).formed Try.prog 76 = true := by
    simp [Value.formed, turnV, Try.underlying76, Try.turnCells]
  unfold keyOf
  rw [Try.underlying76]
  simp only []
  rw [if_pos (by rw [Try.turnType, hform]; rfl), hd]
  simp +decide [Program.keyLits, turnV, Value.cells, Try.underlying76, Try.underlying2, Try.underlying34, Try.underlying9, Try.turnCells, Try.actCells, Try.i64Cells, Try.strCells, h1, h2, h3, hok.1, hok.2]
end Go.Proofs.Ytlbcnmcfljaijaa
