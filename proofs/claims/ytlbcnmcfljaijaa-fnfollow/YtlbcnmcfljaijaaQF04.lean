import Derived.Test.YtlbcnmcfljaijaaQF01
import Derived.Test.YtlbcnmcfljaijaaQF03
import Derived.Deep.QuietTactic
import Derived.BigQuiet
import Derived.Laws.OwnMore
import Derived.Test.YtlbcnmcfljaijaaQF00
import Derived.Deep.RegionLaw
import Derived.Deep.DrawnRows
import Derived.Laws.AppendOwn
import Derived.Maps.AppendAt
import Derived.Test.YtlbcnmcfljaijaaRows
namespace Go.Proofs.Ytlbcnmcfljaijaa
open Go.RowKit
set_option linter.unusedSimpArgs false
set_option linter.unusedVariables false

theorem pick_any (sb : Nat) (ao : Option Addr) (len cap : Nat) (ls : List ByteArray) (v : Value) (w : World) (hl : len ≤ 1048576) (h2 : 2 ≤ ls.length) (h9 : ls.length ≤ 1000) (hv : TextsAt w v ls) (hd : sb ∉ vblocks v) (h : Src w sb ao len cap) :
    Calls Try.prog 31 #[.pointer (some ⟨sb, 0, none⟩), v] w fun e w' => ∃ x, x ∈ ls ∧ e = .returned (.string x) ∧ Src w' sb ao len cap ∧ w.grownBy w' (some sb) := by
  obtain ⟨ao', cap', rfl, hc, hm, hr⟩ := hv
  obtain ⟨b, o, rfl, hcell⟩ := hr (by intro e; rw [e] at h2; simp at h2)
  have HCELL := hide hcell
  have hbs : b ≠ sb := fun e => hd (by simp [vblocks, cellBlocks, e])
  have HN := hide (n_any sb ao len cap (ls.length : Int) w (by omega) (by omega) hl h)
  clear hcell hd h hr
  go_enter Try.func31, Try.ntmps31
  go_wp2_with (go_at_call 14; refine HN.out.mono ?_; rintro e w1 ⟨r, rfl, hr0, hr1, hs, hg⟩; obtain ⟨k, rfl⟩ : ∃ k : Nat, r = (k : Int) := ⟨r.toNat, by omega⟩; have hk : k < ls.length := (by omega); have c0 : w1.cell? ⟨b, o + k, none⟩ = some (.string ls[k]) := (Apart.grown hg).cell' (HCELL.out k hk) (by simp; exact hbs); have H1 := hide (And.intro hs hg); obtain ⟨X, hX⟩ : ∃ x, ls[k] = x := ⟨_, rfl⟩; have HX := hide (show X ∈ ls by rw [← hX]; exact List.getElem_mem hk); rw [hX] at c0; clear hs hg hX)
  go_ret
  exact ⟨X, HX.out, rfl, H1.out.1, H1.out.2⟩
theorem n_pos (sb : Nat) (ao : Option Addr) (len cap : Nat) (most : Int) (w : World) (hm : 1 ≤ most) (hm2 : most ≤ 1099511627776) (hl : len ≤ 1048576) (h : Src w sb ao len cap) :
    Calls Try.prog 14 #[.pointer (some ⟨sb, 0, none⟩), .int .i64 most] w fun e w' => ∃ r : Int, e = .returned (.int .i64 r) ∧ 0 ≤ r ∧ r < most ∧ Src w' sb ao len cap ∧ w.grownBy w' (some sb) := by
  by_cases h1 : most = 1
  · subst h1
    have HS := hide h
    clear h hm hm2 hl
    go_enter Try.func14, Try.ntmps14
    go_wp2_with fail
    go_ret
    exact ⟨0, rfl, by omega, by omega, HS.out, grown_refl _ _⟩
  · exact n_any sb ao len cap most w (by omega) hm2 hl h
theorem src_alloc {w : World} {sb : Nat} {ao : Option Addr} {len cap : Nat} (h : Src w sb ao len cap) (o : Obj) : Src (w.alloc o) sb ao len cap := h.kept (grown_alloc w o none) (fun k hk => by cases hk)
end Go.Proofs.Ytlbcnmcfljaijaa
namespace Go.Proofs.Ytlbcnmcfljaijaa
open Go.RowKit

def Nd.cells (n : Nd) : List Value := [.int .i64 n.op, .string n.name, .string n.peer, .int .i64 n.many, .int .i64 n.sort]
theorem Nd.cells_len (n : Nd) : n.cells.length = 5 := rfl
theorem Nd.cells_one (n : Nd) : ∀ u ∈ n.cells, u.oneCell' = true := by
  intro u hu
  simp [Nd.cells] at hu
  rcases hu with rfl | rfl | rfl | rfl | rfl <;> rfl
theorem nds_one (l : List Nd) : ∀ u ∈ l.flatMap Nd.cells, u.oneCell' = true := fun u hu => by
  obtain ⟨x, _, hx⟩ := List.mem_flatMap.1 hu
  exact Nd.cells_one x u hx
def NdOwn (w : World) (base : Nat) (v : Value) (l : List Nd) : Prop := w.ownsRow base 87 5 v l.length (l.flatMap Nd.cells)
theorem NdOwn.below {w w' : World} {base : Nat} {v : Value} {l : List Nd} (h : NdOwn w base v l) (hb : Below w.heap.size w w') : NdOwn w' base v l := owns_below h hb
theorem NdOwn.snoc {w : World} {base : Nat} {v : Value} {l r : List Nd} (h : w.ownsRow base 87 5 v (l.length + r.length) (l.flatMap Nd.cells ++ r.flatMap Nd.cells)) : NdOwn w base v (l ++ r) := by
  unfold NdOwn
  rw [List.length_append, List.flatMap_append]
  exact h
theorem NdOwn.at_ {w : World} {base : Nat} {v : Value} {l : List Nd} (h : NdOwn w base v l) (hne : 0 < l.length) : ∃ g c, v = .slice (some ⟨g, 0, none⟩) l.length c ∧ g < w.heap.size ∧ base ≤ g := by
  rcases h.2 with ⟨_, h0⟩ | ⟨g, cap, cur, hv, hg, hblk, _⟩
  · omega
  · exact ⟨g, cap, hv, (Array.getElem?_eq_some_iff.1 hblk).1, hg⟩
theorem NdOwn.cell {w : World} {base g c : Nat} {l : List Nd} (h : NdOwn w base (.slice (some ⟨g, 0, none⟩) l.length c) l) (j : Nat) (u : Value) (hj : (l.flatMap Nd.cells)[j]? = some u) : w.cell? (Addr.add ⟨g, 0, none⟩ j) = some u := by
  have e : Addr.add ⟨g, 0, none⟩ j = ⟨g, j, none⟩ := by
    unfold Addr.add
    split <;> simp_all
  rw [e]
  exact owns_cell h rfl j u hj
theorem nd_lit (w : World) (n : Nd) (base b : Nat) (hb : b = w.heap.size) (hB : base ≤ w.heap.size) : NdOwn (w.alloc (.cells #[.int .i64 n.op, .string n.name, .string n.peer, .int .i64 n.many, .int .i64 n.sort] 87)) base (.slice (some ⟨b, 0, none⟩) 1 1) [n] := by
  subst hb
  have := World.ownsRow_lit (e := 87) (size := 5) (base := base) w #[.int .i64 n.op, .string n.name, .string n.peer, .int .i64 n.many, .int .i64 n.sort] 1 hB (by simp [maxLen]) rfl
  unfold NdOwn
  simpa [Nd.cells] using this
theorem Try.infoNd : (Try.prog.info? 87).map (fun i => (i.zero, i.size, i.bytes)) = some (some (.agg #[.int .i64 0, .string ByteArray.empty, .string ByteArray.empty, .int .i64 0, .int .i64 0]), 5, 56) := by kernel_rfl
end Go.Proofs.Ytlbcnmcfljaijaa
namespace Go.Proofs.Ytlbcnmcfljaijaa
open Go.RowKit

theorem setCell_apart (w : World) (b o : Nat) (x : Value) : Apart w (w.setCell ⟨b, o, none⟩ x) [b] := Apart.setCell ⟨rfl, rfl, rfl, Nat.le_refl _, fun _ _ _ => rfl⟩ o x
theorem owns_down {w : World} {base base' e size n : Nat} {v : Value} {xs : List Value} (h : w.ownsRow base e size v n xs) (hb : base' ≤ base) : w.ownsRow base' e size v n xs := by
  obtain ⟨h1, h2⟩ := h
  refine ⟨h1, ?_⟩
  rcases h2 with h2 | ⟨g, cap, cur, a, b, c⟩
  · exact .inl h2
  · exact .inr ⟨g, cap, cur, a, Nat.le_trans hb b, c⟩
theorem stepM_at {P : Program} {ops : Array Oper} {o : Oper} {a : Act} {w : World} {K : Act → World → Prop} {Q : Exit → Act → World → Prop} {E : Prop}
    (hg : o.guard = none) (s x : Operand) (t : TypeId) (hop : o.op = Op.call { callee := Callee.builtin Builtin.append, args := #[s, x], argTypes := #[t, t] })
    (base : Nat) (e : TypeId) (i : TypeInfo) (z : Value) (size bytes : Nat) (h1 : P.underlying t = some (.slice e)) (h2 : P.info? e = some i) (h3 : i.zero = some z) (h4 : i.size = size) (h5 : i.bytes = bytes) (h6 : z.cells.size = size) (h7 : 0 < size)
    (v : Value) (n : Nat) (xs : List Value) (hs : a.eval s = v) (hown : w.ownsRow base e size v n xs)
    (ad : Addr) (m c : Nat) (news : List Value) (hx : a.eval x = .slice (some ad) m c) (hn : news.length = m * size) (hc : ∀ j u, news[j]? = some u → w.cell? (ad.add j) = some u) (h1c : ∀ u ∈ news, u.oneCell' = true)
    (b1 : n + m ≤ maxLen) (b2 : (n + m) * bytes ≤ 140737488355328) (hbase : base ≤ w.heap.size)
    (hK : ∀ v' w', w'.ownsRow base e size v' (n + m) (xs ++ news) → w.grownBy w' v.ownBlock → (v'.ownBlock = v.ownBlock ∨ v'.ownBlock = some w.heap.size) → K (a.put o.dst v') w') :
    if Region.wanted o (yielded ops a.tmps) = true then Oper.wp P o a w K Q else E := by
  have hw : Region.wanted o (yielded ops a.tmps) = true := by simp [Region.wanted, hg]
  rw [if_pos hw]
  obtain ⟨v', w', hrun, r1, r2, _, r3⟩ := run_append_own_at (P := P) w base t o.type e i z size bytes h1 h2 h3 h4 h5 h6 h7 v n xs hown ad m c news hn hc h1c b1 b2 hbase
  unfold Oper.wp
  simp [execOp, hop, resolve, invoke, builtin, hs, hx, hrun, Result.andThen]
  exact hK v' w' r1 r2 r3
theorem Apart.sub {w w' : World} {l l' : List Nat} (h : Apart w w' l) (hs : ∀ b ∈ l, b ∈ l') : Apart w w' l' := ⟨h.os, h.tape, h.output, h.size, fun b hb hn => h.block b hb (fun hm => hn (hs b hm))⟩
structure BoxL (w : World) (b : Nat) (vs : List Value) : Prop where
  cell : ∀ i v, vs[i]? = some v → w.cell? ⟨b, i, none⟩ = some v
  fz : ∀ o, w.frozen? ⟨b, o, none⟩ = false
  lt : b < w.heap.size
theorem BoxL.keep {w w' : World} {b : Nat} {vs : List Value} {l : List Nat} (h : BoxL w b vs) (ha : Apart w w' l) (hl : b ∉ l) : BoxL w' b vs :=
  ⟨fun i v hv => ha.cell' (h.cell i v hv) hl, fun o => ha.frozen' h.lt (h.fz o) hl, Nat.lt_of_lt_of_le h.lt ha.size⟩
theorem BoxL.set {w : World} {b : Nat} {vs : List Value} (h : BoxL w b vs) (k : Nat) (hk : k < vs.length) (y : Value) : BoxL (w.setCell ⟨b, k, none⟩ y) b (vs.set k y) := by
  refine ⟨fun i v hv => ?_, fun o => (World.frozen?_setCell ..).trans (h.fz o), by rw [World.size_setCell]; exact h.lt⟩
  by_cases hi : k = i
  · subst hi
    rw [List.getElem?_set_self hk] at hv
    injection hv with hv
    subst hv
    exact World.cell?_setCell_same _ _ _ (h.cell k vs[k] (by simp [hk]))
  · rw [List.getElem?_set_ne hi] at hv
    rw [World.cell?_setCell_other _ _ _ _ (by intro e; injection e with _ e2; exact hi e2)]
    exact h.cell i v hv
theorem BoxL.new (w : World) (vs : List Value) (T : TypeId) : BoxL (w.alloc (.cells vs.toArray T)) w.heap.size vs := by
  refine ⟨fun i v hv => ?_, fun o => by simp, by simp⟩
  obtain ⟨h1, h2⟩ := List.getElem?_eq_some_iff.1 hv
  simp [h1, h2]
end Go.Proofs.Ytlbcnmcfljaijaa
namespace Go.Proofs.Ytlbcnmcfljaijaa
open Go.RowKit

def kidsBy (go : List Nd → Option (List Nd)) : Nat → List ByteArray → List Nd → Option (List Nd)
  | 0, _, l => some l
  | _ + 1, _, [] => none
  | m + 1, ls, n :: l =>
    if caseB n && !hasB ls n.name then
      match go l with
      | none => none
      | some r => kidsBy go m (ls ++ [n.name]) r
    else none

def ahead (T : Nd → Bool) : Nat → List Nd → List Nd → Option (List Nd)
  | _, _, [] => none
  | 0, st, n :: l =>
    if n.op == 0 then (if endB n then some l else none)
    else if n.op == 1 then (if varB n && backB false st n.name then some l else none)
    else none
  | f + 1, st, n :: l =>
    if n.op == 0 then (if endB n then some l else none)
    else if n.op == 1 then (if varB n && backB false st n.name then some l else none)
    else if n.op == 2 then (if recB n && !withinB st n.name then ahead T f (n :: st) l else none)
    else if T n then kidsBy (ahead T f (n :: st)) n.many.toNat [] l else none

theorem Try.infoS : (Try.prog.info? 9).map (fun i => (i.zero, i.size, i.bytes)) = some (some (.string ByteArray.empty), 1, 16) := by kernel_rfl

theorem kids_nil {go : List Nd → Option (List Nd)} {m : Nat} {ls : List ByteArray} (h : 0 < m) : kidsBy go m ls [] = none := by
  cases m with
  | zero => omega
  | succ m => rfl
theorem kids_no {go : List Nd → Option (List Nd)} {m : Nat} {ls : List ByteArray} {n : Nd} {l : List Nd} (h : 0 < m) (hc : (caseB n && !hasB ls n.name) = false) : kidsBy go m ls (n :: l) = none := by
  cases m with
  | zero => omega
  | succ m => rw [kidsBy, if_neg (by simp [hc])]
theorem kids_stop {go : List Nd → Option (List Nd)} {m : Nat} {ls : List ByteArray} {n : Nd} {l : List Nd} (h : 0 < m) (hc : (caseB n && !hasB ls n.name) = true) (hg : go l = none) : kidsBy go m ls (n :: l) = none := by
  cases m with
  | zero => omega
  | succ m => rw [kidsBy, if_pos hc, hg]
theorem kids_on {go : List Nd → Option (List Nd)} {m k : Nat} {ls : List ByteArray} {n : Nd} {l r : List Nd} (h : k < m) (hc : (caseB n && !hasB ls n.name) = true) (hg : go l = some r) : kidsBy go (m - k) ls (n :: l) = kidsBy go (m - (k + 1)) (ls ++ [n.name]) r := by
  rw [show m - k = (m - (k + 1)) + 1 from by omega, kidsBy, if_pos hc, hg]

theorem kids_suffix {go : List Nd → Option (List Nd)} (hg : ∀ l r, go l = some r → r <:+ l) : ∀ (m : Nat) (ls : List ByteArray) (l r : List Nd), kidsBy go m ls l = some r → r <:+ l
  | 0, _, l, r, h => by cases h; exact List.suffix_refl _
  | _ + 1, _, [], r, h => by cases h
  | m + 1, ls, n :: l, r, h => by
    rw [kidsBy] at h
    split at h
    · split at h
      · cases h
      · rename_i r' hr'
        exact (kids_suffix hg m _ _ _ h).trans ((hg _ _ hr').trans (List.suffix_cons _ _))
    · cases h
theorem ahead_suffix (T : Nd → Bool) : ∀ (f : Nat) (st l r : List Nd), ahead T f st l = some r → r <:+ l := by
  intro f
  induction f with
  | zero =>
    intro st l r h
    cases l with
    | nil => cases h
    | cons n l =>
      rw [ahead] at h
      repeat' split at h
      all_goals first | cases h; exact List.suffix_cons _ _ | cases h
  | succ f ih =>
    intro st l r h
    cases l with
    | nil => cases h
    | cons n l =>
      rw [ahead] at h
      repeat' split at h
      all_goals first
        | (cases h; exact List.suffix_cons _ _)
        | (cases h; done)
        | exact (ih _ _ _ h).trans (List.suffix_cons _ _)
        | exact (kids_suffix (ih _) _ _ _ _ h).trans (List.suffix_cons _ _)

theorem SlAt.tail {w : World} {B b o cap : Nat} {n : Nd} {l : List Nd} (hlt : b < B) (hr : RowAt w b o (n :: l)) (hc : (n :: l).length ≤ cap) (hm : cap ≤ 9223372036854775807 ∧ l.length < 4294967296) (ao : Option Addr) (ha : cap ≠ 1 → ao = some ⟨b, o + 5, none⟩) :
    SlAt w B (.slice ao l.length (cap - 1)) l := by
  refine ⟨ao, cap - 1, rfl, by simp at hc; omega, by omega, fun hne => ?_⟩
  have : 0 < l.length := List.length_pos_iff.2 hne
  simp at hc
  exact ⟨b, o + 5, ha (by omega), hlt, hr.2⟩

end Go.Proofs.Ytlbcnmcfljaijaa
namespace Go.Proofs.Ytlbcnmcfljaijaa
open Go.RowKit

def inB (n lo hi : Int) : Bool := decide (lo ≤ n) && decide (n ≤ hi)
theorem ms_in (n lo hi : Int) (w : World) :
    Calls Try.prog 22 #[.int .i64 n, .int .i64 lo, .int .i64 hi] w fun e w' => e = .returned (.bool (inB n lo hi)) ∧ w' = w := ms_is n lo hi w
theorem ms_sort (n : Int) (w : World) :
    Calls Try.prog 24 #[.int .i64 n] w fun e w' => e = .returned (.bool (inB n 0 2)) ∧ w' = w := by
  go_enter Try.func24, Try.ntmps24
  go_wp2_with (go_at_call 22; refine (ms_in _ _ _ _).mono ?_; rintro e w' ⟨rfl, rfl⟩)
  go_ret
  exact ⟨ret_bool rfl, rfl⟩
def mlessE (a b : REdge) : Bool := decide (a.src < b.src) || (a.src == b.src && Op.bytesLess a.label.toList b.label.toList)
theorem ms_less (a b : REdge) (w : World) :
    Calls Try.prog 25 #[a.val, b.val] w fun e w' => e = .returned (.bool (mlessE a b)) ∧ Below w.heap.size w w' := by
  have HE := hide (show mlessE a b = (decide (a.src < b.src) || (a.src == b.src && Op.bytesLess a.label.toList b.label.toList)) from rfl)
  unfold REdge.val
  by_cases h1 : a.src < b.src
  · go_enter Try.func25, Try.ntmps25
    go_wp2_with fail
    all_goals
      go_ret
      refine ⟨ret_bool ?_, (malloc1 _ _).trans ((malloc1 _ _).mono (by simp))⟩
      rw [HE.out]; simp [*]
  · have h1' : decide (a.src < b.src) = false := decide_eq_false h1
    cases h2 : (a.src == b.src)
    all_goals
      have H2 := hide h2
      have H1 := hide h1'
      go_enter Try.func25, Try.ntmps25
      go_wp2_with fail
      all_goals
        go_ret
        refine ⟨ret_bool ?_, (malloc1 _ _).trans ((malloc1 _ _).mono (by simp))⟩
        rw [HE.out, H2.out, H1.out]; simp
def mstB (x : RState) : Bool := if x.kind == 0 then x.peer.toList == [] else nameB x.peer && inB x.kind 0 2
def kindAt (m : Mach) (s : Int) : Int := match m.states[s.toNat]? with
  | some x => x.kind
  | none => 0
def medB (m : Mach) (e : REdge) : Bool := inB e.src 0 ((m.states.length : Int) - 1) && (inB e.dst 0 ((m.states.length : Int) - 1) && (nameB e.label && (inB e.sort 0 2 && !(kindAt m e.src == 0))))
def edgeOk (m : Mach) (i : Nat) : Bool := match m.edges[i]? with
  | none => true
  | some e => medB m e && (match i, m.edges[i - 1]? with
    | 0, _ => true
    | _ + 1, some e' => mlessE e' e
    | _ + 1, none => true)
def headB (m : Mach) : Bool := inB (m.states.length : Int) 1 40 && (decide (m.edges.length ≤ 80) && inB m.start 0 ((m.states.length : Int) - 1))
def machB (m : Mach) : Bool := headB m && (m.states.all mstB && (List.range m.edges.length).all (edgeOk m))

theorem ms_in_at {q : Bool} {n lo hi : Int} (h : inB n lo hi = q) (w : World) :
    Calls Try.prog 22 #[.int .i64 n, .int .i64 lo, .int .i64 hi] w fun e w' => e = .returned (.bool q) ∧ w' = w := by subst h; exact ms_in n lo hi w
theorem ms_sort_at {q : Bool} {n : Int} (h : inB n 0 2 = q) (w : World) :
    Calls Try.prog 24 #[.int .i64 n] w fun e w' => e = .returned (.bool q) ∧ w' = w := by subst h; exact ms_sort n w
theorem ms_less_at {q : Bool} {a b : REdge} (h : mlessE a b = q) (w : World) :
    Calls Try.prog 25 #[a.val, b.val] w fun e w' => e = .returned (.bool q) ∧ Below w.heap.size w w' := by subst h; exact ms_less a b w
theorem spec_name_at {q : Bool} {s : ByteArray} (h : nameB s = q) (hs : s.size ≤ maxLen) (w : World) :
    Calls Try.prog 23 #[.string s] w fun e w' => e = .returned (.bool q) ∧ w' = w := by subst h; exact spec_name s w hs
end Go.Proofs.Ytlbcnmcfljaijaa
namespace Go.Proofs.Ytlbcnmcfljaijaa
open Go.RowKit

theorem RStateSl.sep {w w' : World} {v : Value} {x : List RState} {l : List Nat} (h : RStateSl w w.heap.size v x) (ha : Apart w w' l) (hd : ∀ b ∈ vblocks v, b ∉ l) : RStateSl w' w'.heap.size v x := by
  have H := h
  obtain ⟨a1, c1, rfl, _⟩ := h
  exact H.keep ha.size (fun b hb hlt => ha.block b hlt (hd b ((own_blocks rfl).1 hb)))
theorem RStateSl.far {w w' : World} {v : Value} {x : List RState} {l : List Nat} (h : RStateSl w w.heap.size v x) (ha : Apart w w' l) (hd : ∀ b ∈ l, w.heap.size ≤ b) : RStateSl w' w'.heap.size v x := by
  have H := h
  obtain ⟨a1, c1, rfl, _⟩ := h
  exact H.keep ha.size (fun b hb hlt => ha.block b hlt (fun hm => absurd (hd b hm) (by omega)))
theorem RStateSl.shape {w : World} {B : Nat} {v : Value} {x : List RState} (h : RStateSl w B v x) : ∃ p c, v = .slice p x.length c := by
  obtain ⟨a1, c1, e, _⟩ := h
  exact ⟨a1, c1, e⟩
end Go.Proofs.Ytlbcnmcfljaijaa
namespace Go.Proofs.Ytlbcnmcfljaijaa
open Go.RowKit

theorem REdgeSl.sep {w w' : World} {v : Value} {x : List REdge} {l : List Nat} (h : REdgeSl w w.heap.size v x) (ha : Apart w w' l) (hd : ∀ b ∈ vblocks v, b ∉ l) : REdgeSl w' w'.heap.size v x := by
  have H := h
  obtain ⟨a1, c1, rfl, _⟩ := h
  exact H.keep ha.size (fun b hb hlt => ha.block b hlt (hd b ((own_blocks rfl).1 hb)))
theorem REdgeSl.far {w w' : World} {v : Value} {x : List REdge} {l : List Nat} (h : REdgeSl w w.heap.size v x) (ha : Apart w w' l) (hd : ∀ b ∈ l, w.heap.size ≤ b) : REdgeSl w' w'.heap.size v x := by
  have H := h
  obtain ⟨a1, c1, rfl, _⟩ := h
  exact H.keep ha.size (fun b hb hlt => ha.block b hlt (fun hm => absurd (hd b hm) (by omega)))
theorem REdgeSl.shape {w : World} {B : Nat} {v : Value} {x : List REdge} (h : REdgeSl w B v x) : ∃ p c, v = .slice p x.length c := by
  obtain ⟨a1, c1, e, _⟩ := h
  exact ⟨a1, c1, e⟩
end Go.Proofs.Ytlbcnmcfljaijaa
namespace Go.Proofs.Ytlbcnmcfljaijaa
open Go.RowKit

theorem new_row1 (w : World) (cs : List Value) (t : TypeId) (j : Nat) (u : Value) (h : cs[j]? = some u) : (w.alloc (.cells cs.toArray t)).cell? (Addr.add ⟨w.heap.size, 0, none⟩ j) = some u := by
  have e : (w.alloc (.cells cs.toArray t)).heap[w.heap.size]? = some (.cells cs.toArray t) := mheap_new _ _ _ rfl
  have ea : Addr.add ⟨w.heap.size, 0, none⟩ j = ⟨w.heap.size, j, none⟩ := by
    unfold Addr.add
    split <;> simp_all
  rw [ea]
  simp only [World.cell?]
  rw [e]
  simpa using h
theorem Try.infoStrR : (Try.prog.info? 9).map (fun i => (i.zero, i.size, i.bytes)) = some (some (.string ByteArray.empty), 1, 16) := by kernel_rfl
end Go.Proofs.Ytlbcnmcfljaijaa
namespace Go.Proofs.Ytlbcnmcfljaijaa
open Go.RowKit Go.ChangeShapes Go.WideShapes

end Go.Proofs.Ytlbcnmcfljaijaa
namespace Go.Proofs.Ytlbcnmcfljaijaa
open Go.RowKit

def RAct.cells (x : RAct) : List Value := [.int .i64 x.kind, .string x.peer, .string x.label, .int .i64 x.sort]
theorem RAct.cells_len (x : RAct) : x.cells.length = 4 := rfl
theorem RAct.cells_one (x : RAct) : ∀ u ∈ x.cells, u.oneCell' = true := by
  intro u hu
  simp [RAct.cells] at hu
  rcases hu with rfl | rfl | rfl | rfl <;> rfl
def RActOwn (w : World) (base : Nat) (v : Value) (l : List RAct) : Prop := w.ownsRow base 34 4 v l.length (l.flatMap RAct.cells)
theorem RActOwn.sl {w : World} {base : Nat} {v : Value} {l : List RAct} (h : RActOwn w base v l) (hl : l.length ≤ 4294967296) : RActSl w w.heap.size v l := by
  have H := h
  obtain ⟨_, hh⟩ := h
  rcases hh with ⟨rfl, h0⟩ | ⟨gb, cap, cur, rfl, hg, hblk, hc, _⟩
  · have : l = [] := List.length_eq_zero_iff.1 h0
    subst this
    exact ⟨none, 0, rfl, Nat.le_refl _, by simp, fun h => absurd rfl h⟩
  · refine ⟨_, _, rfl, hc, hl, fun _ => ⟨gb, 0, rfl, (Array.getElem?_eq_some_iff.1 hblk).1, RActs.of w gb l 0 (fun j hj => ?_)⟩⟩
    rw [Nat.zero_add]
    have e := fun i (hi : i < 4) (x : Value) (hx : (l[j].cells)[i]? = some x) => owns_cell H rfl (j * 4 + i) x ((flat_get RAct.cells 4 RAct.cells_len l j hj i hi).trans hx)
    exact ⟨e 0 (by omega) _ rfl, e 1 (by omega) _ rfl, e 2 (by omega) _ rfl, e 3 (by omega) _ rfl⟩
theorem RActOwn.keep {w w' : World} {base : Nat} {v : Value} {x : List RAct} {l : List Nat} (h : RActOwn w base v x) (ha : Apart w w' l) (hd : ∀ b ∈ vblocks v, b ∉ l) : RActOwn w' base v x := owns_keep h ha hd
theorem RActOwn.below {w w' : World} {base : Nat} {v : Value} {x : List RAct} (h : RActOwn w base v x) (hb : Below w.heap.size w w') : RActOwn w' base v x := owns_below h hb
theorem RActOwn.fresh {w : World} {base : Nat} {v : Value} {x : List RAct} (h : RActOwn w base v x) : Fresh base w v := owns_fresh h
theorem RActOwn.nil (w : World) (base : Nat) : RActOwn w base (.slice none 0 0) [] := owns_nil w base _ _
theorem RActOwn.snoc {w : World} {base : Nat} {v : Value} {l : List RAct} {x : RAct} (h : w.ownsRow base 34 4 v (l.length + 1) (l.flatMap RAct.cells ++ x.cells)) : RActOwn w base v (l ++ [x]) := by
  unfold RActOwn
  rw [List.length_append, List.length_singleton, List.flatMap_append]
  simpa using h
end Go.Proofs.Ytlbcnmcfljaijaa
