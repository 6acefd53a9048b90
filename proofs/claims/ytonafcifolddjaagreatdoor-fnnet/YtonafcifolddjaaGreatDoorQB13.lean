/- What serves every walk: a block's cells, what is kept apart, append as one step. -/
import Derived.Test.YtonafcifolddjaaGreatDoorQB08
import Derived.Test.YtonafcifolddjaaGreatDoorQB01
import Derived.Deep.RegionLaw
import Derived.Deep.DrawnRows
import Derived.Laws.AppendOwn
import Derived.Maps.AppendAt
import Derived.Test.YtonafcifolddjaaGreatDoorQB05
import Derived.Test.YtonafcifolddjaaGreatDoorRows
import Derived.Test.YtonafcifolddjaaGreatDoorQB10
import Derived.Test.YtonafcifolddjaaGreatDoorQB12
namespace Go.Proofs.YtonafcifolddjaaGreatDoor
open Go.RowKit

theorem setCell_apart (w : World) (b o : Nat) (x : Value) : Apart w (w.setCell ⟨b, o, none⟩ x) [b] := Apart.setCell ⟨rfl, rfl, rfl, Nat.le_refl _, fun _ _ _ => rfl⟩ o x
theorem owns_down {w : World} {base base' e size n : Nat} {v : Value} {xs : List Value} (h : w.ownsRow base e size v n xs) (hb : base' ≤ base) : w.ownsRow base' e size v n xs := by
  obtain ⟨h1, h2⟩ := h
  refine ⟨h1, ?_⟩
  rcases h2 with h2 | ⟨g, cap, cur, a, b, c⟩
  · exact .inl h2
  · exact .inr ⟨g, cap, cur, a, Nat.le_trans hb b, c⟩
theorem stepM_at {P : Program} {ops : Array Oper} {o : Oper} {a : Act} {w : World} {K : Act → World → Prop} {Q : Exit → Act → World → Prop} {E : Prop}
    (hg : o.guard = none) (s x : Operand) (t : TypeId) (hop : o.op = Op.call { callee := Callee.builtin Builtin.append, args := #[s, x], argTypes := #[t, t] })
    (base : Nat) (e : TypeId) (i : TypeInfo) (z : Value) (size bytes : Nat) (h1 : P.underlying t = some (.slice e)) (h2 : P.info? e = some i) (h3 : i.zero = some z) (h4 : i.size = size) (h5 : i.bytes = bytes) (h6 : z.cells.size = size) (h7 : 0 < size)
    (v : Value) (n : Nat) (xs : List Value) (hs : a.eval s = v) (hown : w.ownsRow base e size v n xs)
    (ad : Addr) (m c : Nat) (news : List Value) (hx : a.eval x = .slice (some ad) m c) (hn : news.length = m * size) (hc : ∀ j u, news[j]? = some u → w.cell? (ad.add j) = some u) (h1c : ∀ u ∈ news, u.oneCell' = true)
    (b1 : n + m ≤ maxLen) (b2 : (n + m) * bytes ≤ 140737488355328) (hbase : base ≤ w.heap.size)
    (hK : ∀ v' w', w'.ownsRow base e size v' (n + m) (xs ++ news) → w.grownBy w' v.ownBlock → (v'.ownBlock = v.ownBlock ∨ v'.ownBlock = some w.heap.size) → K (a.put o.dst v') w') :
    if Region.wanted o (yielded ops a.tmps) = true then Oper.wp P o a w K Q else E := by
  have hw : Region.wanted o (yielded ops a.tmps) = true := by simp [Region.wanted, hg]
  rw [if_pos hw]
  obtain ⟨v', w', hrun, r1, r2, _, r3⟩ := run_append_own_at (P := P) w base t o.type e i z size bytes h1 h2 h3 h4 h5 h6 h7 v n xs hown ad m c news hn hc h1c b1 b2 hbase
  unfold Oper.wp
  simp [execOp, hop, resolve, invoke, builtin, hs, hx, hrun, Result.andThen]
  exact hK v' w' r1 r2 r3
theorem Apart.sub {w w' : World} {l l' : List Nat} (h : Apart w w' l) (hs : ∀ b ∈ l, b ∈ l') : Apart w w' l' := ⟨h.os, h.tape, h.output, h.size, fun b hb hn => h.block b hb (fun hm => hn (hs b hm))⟩
structure BoxL (w : World) (b : Nat) (vs : List Value) : Prop where
  cell : ∀ i v, vs[i]? = some v → w.cell? ⟨b, i, none⟩ = some v
  fz : ∀ o, w.frozen? ⟨b, o, none⟩ = false
  lt : b < w.heap.size
theorem BoxL.keep {w w' : World} {b : Nat} {vs : List Value} {l : List Nat} (h : BoxL w b vs) (ha : Apart w w' l) (hl : b ∉ l) : BoxL w' b vs :=
  ⟨fun i v hv => ha.cell' (h.cell i v hv) hl, fun o => ha.frozen' h.lt (h.fz o) hl, Nat.lt_of_lt_of_le h.lt ha.size⟩
theorem BoxL.set {w : World} {b : Nat} {vs : List Value} (h : BoxL w b vs) (k : Nat) (hk : k < vs.length) (y : Value) : BoxL (w.setCell ⟨b, k, none⟩ y) b (vs.set k y) := by
  refine ⟨fun i v hv => ?_, fun o => (World.frozen?_setCell ..).trans (h.fz o), by rw [World.size_setCell]; exact h.lt⟩
  by_cases hi : k = i
  · subst hi
    rw [List.getElem?_set_self hk] at hv
    injection hv with hv
    subst hv
    exact World.cell?_setCell_same _ _ _ (h.cell k vs[k] (by simp [hk]))
  · rw [List.getElem?_set_ne hi] at hv
    rw [World.cell?_setCell_other _ _ _ _ (by intro e; injection e with _ e2; exact hi e2)]
    exact h.cell i v hv
theorem BoxL.new (w : World) (vs : List Value) (T : TypeId) : BoxL (w.alloc (.cells vs.toArray T)) w.heap.size vs := by
  refine ⟨fun i v hv => ?_, fun o => by simp, by simp⟩
  obtain ⟨h1, h2⟩ := List.getElem?_eq_some_iff.1 hv
  simp [h1, h2]
end Go.Proofs.YtonafcifolddjaaGreatDoor
/- How much of the size is left behind a row of Msgs; such a row as a law holds it. -/
namespace Go.Proofs.YtonafcifolddjaaGreatDoor
open Go.RowKit

theorem RMsgSl.sep {w w' : World} {v : Value} {x : List RMsg} {l : List Nat} (h : RMsgSl w w.heap.size v x) (ha : Apart w w' l) (hd : ∀ b ∈ vblocks v, b ∉ l) : RMsgSl w' w'.heap.size v x := by
  have H := h
  obtain ⟨a1, c1, rfl, _⟩ := h
  exact H.keep ha.size (fun b hb hlt => ha.block b hlt (hd b ((own_blocks rfl).1 hb)))
theorem RMsgSl.far {w w' : World} {v : Value} {x : List RMsg} {l : List Nat} (h : RMsgSl w w.heap.size v x) (ha : Apart w w' l) (hd : ∀ b ∈ l, w.heap.size ≤ b) : RMsgSl w' w'.heap.size v x := by
  have H := h
  obtain ⟨a1, c1, rfl, _⟩ := h
  exact H.keep ha.size (fun b hb hlt => ha.block b hlt (fun hm => absurd (hd b hm) (by omega)))
theorem RMsgSl.shape {w : World} {B : Nat} {v : Value} {x : List RMsg} (h : RMsgSl w B v x) : ∃ p c, v = .slice p x.length c := by
  obtain ⟨a1, c1, e, _⟩ := h
  exact ⟨a1, c1, e⟩
end Go.Proofs.YtonafcifolddjaaGreatDoor
/- Rows of texts that a call makes itself. -/
namespace Go.Proofs.YtonafcifolddjaaGreatDoor
open Go.RowKit

theorem new_row1 (w : World) (cs : List Value) (t : TypeId) (j : Nat) (u : Value) (h : cs[j]? = some u) : (w.alloc (.cells cs.toArray t)).cell? (Addr.add ⟨w.heap.size, 0, none⟩ j) = some u := by
  have e : (w.alloc (.cells cs.toArray t)).heap[w.heap.size]? = some (.cells cs.toArray t) := mheap_new _ _ _ rfl
  have ea : Addr.add ⟨w.heap.size, 0, none⟩ j = ⟨w.heap.size, j, none⟩ := by
    unfold Addr.add
    split <;> simp_all
  rw [ea]
  simp only [World.cell?]
  rw [e]
  simpa using h
theorem Tryz.infoStr : (Tryz.prog.info? 9).map (fun i => (i.zero, i.size, i.bytes)) = some (some (.string ByteArray.empty), 1, 16) := by kernel_rfl
theorem owns_some {w : World} {base e n : Nat} {v : Value} {xs : List Value} (h : w.ownsRow base e 1 v n xs) (hn : 0 < n) : ∃ g c, v = .slice (some ⟨g, 0, none⟩) n c ∧ g < w.heap.size ∧ ∀ i x, xs[i]? = some x → w.cell? ⟨g, i, none⟩ = some x := by
  have H := h
  obtain ⟨_, hh⟩ := h
  rcases hh with ⟨rfl, h0⟩ | ⟨g, cap, cur, rfl, _, hblk, _⟩
  · omega
  · exact ⟨g, cap, rfl, (Array.getElem?_eq_some_iff.1 hblk).1, fun i x hx => owns_cell H rfl i x hx⟩
def strV (l : List ByteArray) : List Value := l.map Value.string
theorem strV_one (l : List ByteArray) : ∀ u ∈ strV l, u.oneCell' = true := by
  intro u hu
  simp only [strV, List.mem_map] at hu
  obtain ⟨x, _, rfl⟩ := hu
  rfl
end Go.Proofs.YtonafcifolddjaaGreatDoor
/- NetOut: the law's own helpers over it. -/
namespace Go.Proofs.YtonafcifolddjaaGreatDoor
open Go.RowKit

def netV (sv : Value) (m : RMsg) (c : Int) : Value := .agg #[sv, .string m.frm, .string m.to, .string m.label, .int .i64 m.sort, .int .i64 c]
end Go.Proofs.YtonafcifolddjaaGreatDoor
/- Texts read from bytes: the plain part, and readText, walked. -/
namespace Go.Proofs.YtonafcifolddjaaGreatDoor
open Go.RowKit

theorem getR_facts (s : ByteArray) (a : Nat) : ∀ f k, ((getR s a f k).2.2 = 0 ∧ 1 ≤ (getR s a f k).2.1 ∧ (getR s a f k).2.1 ≤ (s.size : Int)) ∨ ((getR s a f k).1 = 0 ∧ (getR s a f k).2.1 = 0 ∧ 1 ≤ (getR s a f k).2.2 ∧ (getR s a f k).2.2 ≤ 4) := by
  intro f
  induction f with
  | zero => intro k; right; simp [getR]
  | succ f ih =>
    intro k
    unfold getR
    split
    · right; simp
    · split
      · right; simp
      · split
        · split
          · right; simp
          · left; refine ⟨rfl, ?_, ?_⟩ <;> simp <;> omega
        · exact ih (k + 1)
theorem getN_facts (s : ByteArray) (a : Int) : ((getN s a).2.2 = 0 ∧ 1 ≤ (getN s a).2.1 ∧ (getN s a).2.1 ≤ (s.size : Int) ∧ s.size ≤ 8000) ∨ ((getN s a).1 = 0 ∧ (getN s a).2.1 = 0 ∧ 1 ≤ (getN s a).2.2 ∧ (getN s a).2.2 ≤ 4) := by
  unfold getN
  split
  · right; simp
  · split
    · right; simp
    · rcases getR_facts s a.toNat 10 0 with h | h
      · left; exact ⟨h.1, h.2.1, h.2.2, by omega⟩
      · right; exact h

/-- What GetText tells: the text, the place, the code. -/
def getT (s : ByteArray) (a : Int) : ByteArray × Int × Int :=
  if (getN s a).2.2 ≠ 0 then (⟨#[]⟩, 0, (getN s a).2.2)
  else if (getN s a).1 < 0 ∨ 8000 < (getN s a).1 then (⟨#[]⟩, 0, 3)
  else if (s.size : Int) - (getN s a).2.1 < (getN s a).1 then (⟨#[]⟩, 0, 4)
  else (s.extract (getN s a).2.1.toNat ((getN s a).2.1.toNat + (getN s a).1.toNat), (getN s a).2.1 + (getN s a).1, 0)

theorem tup_ret {r : ByteArray × Int × Int} {x : ByteArray} {y z : Int} {v : Value} (h : r = (x, y, z)) (hv : v = errV z) : Ending.returned (.tuple #[.string x, .int .i64 y, v]) = .returned (.tuple #[.string r.1, .int .i64 r.2.1, errV r.2.2]) := by rw [h, hv]

set_option maxRecDepth 100000 in
set_option maxHeartbeats 2000000 in
theorem read_text (s : ByteArray) (a : Int) (w : World) (hs : s.size ≤ maxLen) (ha : a ≤ 9223372036854775807) :
    Calls Tryz.prog 81 #[.string s, .int .i64 a] w fun e w' => e = .returned (.tuple #[.string (getT s a).1, .int .i64 (getT s a).2.1, errV (getT s a).2.2]) ∧ Below w.heap.size w w' := by
  have HR : Hid (∀ w, Calls Tryz.prog 92 #[.string s, .int .i64 a] w fun e w' => e = .returned (.tuple #[.int .i64 (getN s a).1, .int .i64 (getN s a).2.1, errV (getN s a).2.2]) ∧ w' = w) := fun w => read_num s a w hs ha
  have hfa := getN_facts s a
  have HT : Hid (getT s a = if (getN s a).2.2 ≠ 0 then (⟨#[]⟩, 0, (getN s a).2.2) else if (getN s a).1 < 0 ∨ 8000 < (getN s a).1 then (⟨#[]⟩, 0, 3) else if (s.size : Int) - (getN s a).2.1 < (getN s a).1 then (⟨#[]⟩, 0, 4) else (s.extract (getN s a).2.1.toNat ((getN s a).2.1.toNat + (getN s a).1.toNat), (getN s a).2.1 + (getN s a).1, 0)) := rfl
  clear ha
  generalize (getN s a).1 = N at *
  generalize (getN s a).2.1 = B at *
  generalize (getN s a).2.2 = C at *
  unfold maxLen at hs
  rcases hfa with ⟨rfl, h1, h2, h8⟩ | ⟨rfl, rfl, h1, h4⟩
  · have HE : Hid (errV 0 = .nilIface) := if_pos rfl
    rw [HE.out] at HR
    by_cases hr : N < 0 ∨ 8000 < N
    · have HZ : Hid (getT s a = (⟨#[]⟩, 0, 3)) := by show _ = _; rw [HT.out, if_neg (by simp), if_pos hr]
      clear HT
      have hcase : (decide (N < 0) = true) ∨ (decide (N < 0) = false ∧ 8000 < N) := by
        rcases hr with h | h
        · exact .inl (decide_eq_true h)
        · exact .inr ⟨decide_eq_false (by omega), h⟩
      clear hr
      rcases hcase with g | ⟨g, g2⟩
      all_goals
        go_enter Tryz.func81, Tryz.ntmps81
        go_wp2_with (go_at_call 92; refine (HR.out _).mono ?_; rintro e w1 ⟨rfl, hw⟩; obtain rfl : w = w1 := hw.symm; clear hw)
        go_ret3
        exact ⟨tup_ret HZ.out (by rw [errV, if_neg (by omega)]; rfl), Below.refl _ _⟩
    · have n0 : 0 ≤ N := by omega
      have n8 : N ≤ 8000 := by omega
      by_cases hsh : (s.size : Int) - B < N
      · have HZ : Hid (getT s a = (⟨#[]⟩, 0, 4)) := by show _ = _; rw [HT.out, if_neg (by simp), if_neg hr, if_pos hsh]
        clear HT hr
        go_enter Tryz.func81, Tryz.ntmps81
        go_wp2_with (go_at_call 92; refine (HR.out _).mono ?_; rintro e w1 ⟨rfl, hw⟩; obtain rfl : w = w1 := hw.symm; clear hw)
        go_ret3
        exact ⟨tup_ret HZ.out (by rw [errV, if_neg (by omega)]; rfl), Below.refl _ _⟩
      · obtain ⟨b, rfl⟩ := Int.eq_ofNat_of_zero_le (show 0 ≤ B by omega)
        obtain ⟨n, rfl⟩ := Int.eq_ofNat_of_zero_le n0
        have HZ : Hid (getT s a = (s.extract b (b + n), (b : Int) + (n : Int), 0)) := by show _ = _; rw [HT.out, if_neg (by simp), if_neg hr, if_neg hsh]; rfl
        have HX : Hid ((s.extract b (b + n)).size ≤ 1000000) := by show _ ≤ _; simp; omega
        clear HT hr
        go_enter Tryz.func81, Tryz.ntmps81
        go_wp2_with (go_at_call 92; refine (HR.out _).mono ?_; rintro e w1 ⟨rfl, hw⟩; obtain rfl : w = w1 := hw.symm; clear hw)
        refine (join1 (s.extract b (b + n)) _ _ _ (by simp) (by simp) HX.out).mono ?_
        rintro e w2 ⟨rfl, hb2⟩
        rw [join_one]
        have HB := hide hb2
        clear hb2
        go_wp2
        go_ret3
        exact ⟨tup_ret HZ.out HE.out.symm, ((Below.refl _ _).alloc (Nat.le_refl _) _).trans (HB.out.mono (by simp))⟩
  · have HZ : Hid (getT s a = (⟨#[]⟩, 0, C)) := by show _ = _; rw [HT.out, if_pos (by omega)]
    have HE : Hid (errV C = .iface 102 (.agg #[.int .i64 C])) := if_neg (by omega)
    rw [HE.out] at HR
    clear HT
    go_enter Tryz.func81, Tryz.ntmps81
    go_wp2_with (go_at_call 92; refine (HR.out _).mono ?_; rintro e w1 ⟨rfl, hw⟩; obtain rfl : w = w1 := hw.symm; clear hw)
    go_ret3
    exact ⟨tup_ret HZ.out HE.out.symm, Below.refl _ _⟩
end Go.Proofs.YtonafcifolddjaaGreatDoor
