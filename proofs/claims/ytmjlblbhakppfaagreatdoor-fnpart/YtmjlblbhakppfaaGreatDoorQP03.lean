import Derived.Test.YtmjlblbhakppfaaGreatDoorQP01
import Derived.Test.YtmjlblbhakppfaaGreatDoorQP02
import Derived.Deep.QuietTactic
import Derived.BigQuiet
import Derived.Laws.OwnMore
import Derived.Test.YtmjlblbhakppfaaGreatDoorQP00
import Derived.Deep.RegionLaw
import Derived.Deep.DrawnRows
import Derived.Laws.AppendOwn
import Derived.Maps.AppendAt
import Derived.Test.YtmjlblbhakppfaaGreatDoorRows
namespace Go.Proofs.YtmjlblbhakppfaaGreatDoor
open Go.RowKit
set_option linter.unusedSimpArgs false
set_option linter.unusedVariables false

theorem pick_any (sb : Nat) (ao : Option Addr) (len cap : Nat) (ls : List ByteArray) (v : Value) (w : World) (hl : len ≤ 1048576) (h2 : 2 ≤ ls.length) (h9 : ls.length ≤ 1000) (hv : TextsAt w v ls) (hd : sb ∉ vblocks v) (h : Src w sb ao len cap) :
    Calls Tryz.prog 41 #[.pointer (some ⟨sb, 0, none⟩), v] w fun e w' => ∃ x, x ∈ ls ∧ e = .returned (.string x) ∧ Src w' sb ao len cap ∧ w.grownBy w' (some sb) := by
  obtain ⟨ao', cap', rfl, hc, hm, hr⟩ := hv
  obtain ⟨b, o, rfl, hcell⟩ := hr (by intro e; rw [e] at h2; simp at h2)
  have HCELL := hide hcell
  have hbs : b ≠ sb := fun e => hd (by simp [vblocks, cellBlocks, e])
  have HN := hide (n_any sb ao len cap (ls.length : Int) w (by omega) (by omega) hl h)
  clear hcell hd h hr
  go_enter Tryz.func41, Tryz.ntmps41
  go_wp2_with (go_at_call 39; refine HN.out.mono ?_; rintro e w1 ⟨r, rfl, hr0, hr1, hs, hg⟩; obtain ⟨k, rfl⟩ : ∃ k : Nat, r = (k : Int) := ⟨r.toNat, by omega⟩; have hk : k < ls.length := (by omega); have c0 : w1.cell? ⟨b, o + k, none⟩ = some (.string ls[k]) := (Apart.grown hg).cell' (HCELL.out k hk) (by simp; exact hbs); have H1 := hide (And.intro hs hg); obtain ⟨X, hX⟩ : ∃ x, ls[k] = x := ⟨_, rfl⟩; have HX := hide (show X ∈ ls by rw [← hX]; exact List.getElem_mem hk); rw [hX] at c0; clear hs hg hX)
  go_ret
  exact ⟨X, HX.out, rfl, H1.out.1, H1.out.2⟩
theorem sp_at (k : Nat) (hk : k < 17) : ∃ z : Nat, z < 256 ∧ ∀ W : World, (Instr.index 9 (.string ⟨#[32, 10, 48, 97, 45, 110, 44, 58, 93, 255, 40, 120, 126, 49, 128, 225, 59]⟩) (.int .i64 (k : Int))).run Tryz.prog W = .ok (.int .u8 (z : Int)) W := by
  match k, hk with
  | 0, _ => exact ⟨32, by omega, fun W => by kernel_rfl⟩
  | 1, _ => exact ⟨10, by omega, fun W => by kernel_rfl⟩
  | 2, _ => exact ⟨48, by omega, fun W => by kernel_rfl⟩
  | 3, _ => exact ⟨97, by omega, fun W => by kernel_rfl⟩
  | 4, _ => exact ⟨45, by omega, fun W => by kernel_rfl⟩
  | 5, _ => exact ⟨110, by omega, fun W => by kernel_rfl⟩
  | 6, _ => exact ⟨44, by omega, fun W => by kernel_rfl⟩
  | 7, _ => exact ⟨58, by omega, fun W => by kernel_rfl⟩
  | 8, _ => exact ⟨93, by omega, fun W => by kernel_rfl⟩
  | 9, _ => exact ⟨255, by omega, fun W => by kernel_rfl⟩
  | 10, _ => exact ⟨40, by omega, fun W => by kernel_rfl⟩
  | 11, _ => exact ⟨120, by omega, fun W => by kernel_rfl⟩
  | 12, _ => exact ⟨126, by omega, fun W => by kernel_rfl⟩
  | 13, _ => exact ⟨49, by omega, fun W => by kernel_rfl⟩
  | 14, _ => exact ⟨128, by omega, fun W => by kernel_rfl⟩
  | 15, _ => exact ⟨225, by omega, fun W => by kernel_rfl⟩
  | 16, _ => exact ⟨59, by omega, fun W => by kernel_rfl⟩
  | k + 17, h => omega
theorem conv1 (z : Nat) (hz : z < 256) (W : World) :
    (convert 22 9 (.slice (some ⟨W.heap.size, 0, none⟩) 1 1)).run Tryz.prog (W.alloc (.cells #[.int .u8 (z : Int)] 5)) = .ok (.string ⟨[UInt8.ofNat z].toArray⟩) (W.alloc (.cells #[.int .u8 (z : Int)] 5)) := by
  refine run_convert_bytes_back (P := Tryz.prog) _ 22 9 5 ⟨W.heap.size, 0, none⟩ 1 [UInt8.ofNat z] Tryz.underlying22 Tryz.underlying5 Tryz.underlying9 (fun i hi => ?_)
  match i, hi with
  | 0, _ =>
    have e : ((UInt8.ofNat z).toNat : Int) = (z : Int) := by
      rw [UInt8.toNat_ofNat']
      omega
    simp [Addr.add, e]
    omega
theorem n_pos (sb : Nat) (ao : Option Addr) (len cap : Nat) (most : Int) (w : World) (hm : 1 ≤ most) (hm2 : most ≤ 1099511627776) (hl : len ≤ 1048576) (h : Src w sb ao len cap) :
    Calls Tryz.prog 39 #[.pointer (some ⟨sb, 0, none⟩), .int .i64 most] w fun e w' => ∃ r : Int, e = .returned (.int .i64 r) ∧ 0 ≤ r ∧ r < most ∧ Src w' sb ao len cap ∧ w.grownBy w' (some sb) := by
  by_cases h1 : most = 1
  · subst h1
    have HS := hide h
    clear h hm hm2 hl
    go_enter Tryz.func39, Tryz.ntmps39
    go_wp2_with fail
    go_ret
    exact ⟨0, rfl, by omega, by omega, HS.out, grown_refl _ _⟩
  · exact n_any sb ao len cap most w (by omega) hm2 hl h
def SpAns (w w' : World) (e : Ending) (t : ByteArray) (sb : Nat) (ao : Option Addr) (len cap : Nat) : Prop := ∃ u, e = .returned (.string u) ∧ u.size ≤ t.size + 1 ∧ Src w' sb ao len cap ∧ w.grownBy w' (some sb)
theorem src_end {w w' : World} {sb : Nat} {ao : Option Addr} {len cap : Nat} (h : Src w' sb ao len cap) (hg : w.grownBy w' (some sb)) (n : Nat) : Src (w'.drewN n) sb ao len cap ∧ w.grownBy (w'.drewN n) (some sb) := ⟨⟨h.c0, h.c1, h.c2, h.c3, h.fr, h.row⟩, ⟨hg.os, hg.tape, hg.output, hg.size, hg.block⟩⟩
theorem src_alloc {w : World} {sb : Nat} {ao : Option Addr} {len cap : Nat} (h : Src w sb ao len cap) (o : Obj) : Src (w.alloc o) sb ao len cap := h.kept (grown_alloc w o none) (fun k hk => by cases hk)
set_option maxRecDepth 100000 in
set_option maxHeartbeats 2000000 in
theorem spoil_any (sb : Nat) (ao : Option Addr) (len cap : Nat) (t : ByteArray) (w : World) (hl : len ≤ 1048576) (ht : t.size ≤ 8000) (h : Src w sb ao len cap) :
    Calls Tryz.prog 40 #[.pointer (some ⟨sb, 0, none⟩), .string t] w fun e w' => SpAns w w' e t sb ao len cap := by
  have HN := hide (n_pos sb ao len cap ((t.size : Int) + 1) w (by omega) (by omega) hl h)
  have HN2 : Hid (∀ w1, Src w1 sb ao len cap → Calls Tryz.prog 39 #[.pointer (some ⟨sb, 0, none⟩), .int .i64 17] w1 fun e w' => ∃ r : Int, e = .returned (.int .i64 r) ∧ 0 ≤ r ∧ r < 17 ∧ Src w' sb ao len cap ∧ w1.grownBy w' (some sb)) := hide (fun w1 h1 => n_any sb ao len cap 17 w1 (by omega) (by omega) hl h1)
  have HO3 : Hid (∀ w1, Src w1 sb ao len cap → Calls Tryz.prog 55 #[.pointer (some ⟨sb, 0, none⟩), .int .i64 3] w1 fun e w' => ∃ b : Bool, e = .returned (.bool b) ∧ Src w' sb ao len cap ∧ w1.grownBy w' (some sb)) := hide (fun w1 hs => n_one sb ao len cap 3 w1 (by omega) (by omega) hl hs)
  have HO2 : Hid (∀ w1, Src w1 sb ao len cap → Calls Tryz.prog 55 #[.pointer (some ⟨sb, 0, none⟩), .int .i64 2] w1 fun e w' => ∃ b : Bool, e = .returned (.bool b) ∧ Src w' sb ao len cap ∧ w1.grownBy w' (some sb)) := hide (fun w1 hs => n_one sb ao len cap 2 w1 (by omega) (by omega) hl hs)
  clear h hl
  go_enter Tryz.func40, Tryz.ntmps40
  go_wp2_with (first
    | (go_at_call 39; (fail_if_success (have := HS1)); refine HN.out.mono ?_; rintro e w1 ⟨r, rfl, hr0, hr1, hs, hg⟩; obtain ⟨k, rfl⟩ : ∃ k : Nat, r = (k : Int) := ⟨r.toNat, by omega⟩; have hk : k ≤ t.size := (by omega); have HS1 := hide hs; have HG1 := hide hg; clear hs hg hr0 hr1)
    | (go_at_call 39; have HM1 := HS1; refine (HN2.out _ HS1.out).mono ?_; rintro e w2 ⟨r2, rfl, hq0, hq1, hs, hg⟩; obtain ⟨k2, rfl⟩ : ∃ k : Nat, r2 = (k : Int) := ⟨r2.toNat, by omega⟩; obtain ⟨z, hz, hidx⟩ := sp_at k2 (by omega); have hconv := conv1 z hz w2; obtain ⟨C, hC⟩ : ∃ C, (⟨[UInt8.ofNat z].toArray⟩ : ByteArray) = C := ⟨_, rfl⟩; have HC : Hid (C.size = 1) := hide (by rw [← hC]; rfl); rw [hC] at hconv; have HS2 := hide (src_alloc hs (.cells #[.int .u8 (z : Int)] 5)); have HG2 := hide (grown_trans HG1.out (grown_trans hg (grown_alloc w2 (.cells #[.int .u8 (z : Int)] 5) _))); clear hs hg hC; by_cases hkt : k = t.size)
    | (go_at_call 55; (fail_if_success (have := HS3)); have HM2 := HS2; refine (HO3.out _ HS2.out).mono ?_; rintro e w3 ⟨b3, rfl, hs, hg⟩; have HS3 := hide hs; have HG3 := hide (grown_trans HG2.out hg); clear hs hg; cases b3)
    | (go_at_call 55; have HM3 := HS3; refine (HO2.out _ HS3.out).mono ?_; rintro e w4 ⟨b4, rfl, hs, hg⟩; have HS4 := hide hs; have HG4 := hide (grown_trans HG3.out hg); clear hs hg; cases b4))
  all_goals
    have hc1 := HC.out
    have hs1 : (t.extract 0 k).size = k := by rw [ByteArray.size_extract]; omega
    have hs2 : (t.extract k t.size).size = t.size - k := by rw [ByteArray.size_extract]; omega
    have hs3 : (t.extract (k + 1) t.size).size = t.size - (k + 1) := by rw [ByteArray.size_extract]; omega
    have q1 : ¬ 9223372036854775807 < (t.extract 0 k).size + C.size := by omega
    have q2 : ¬ 9223372036854775807 < (t.extract 0 k).size + C.size + (t.extract k t.size).size := by omega
    have q3 : ¬ 9223372036854775807 < (t.extract 0 k).size + (t.extract (k + 1) t.size).size := by omega
    have q4 : ¬ 9223372036854775807 < (t.extract 0 k).size + C.size + (t.extract (k + 1) t.size).size := by omega
    go_quiet (fail)
    go_wp2_with fail
    go_ret
    refine ⟨_, rfl, by first | (rw [ByteArray.size_append, ByteArray.size_append, hs1, hs2, hc1]; omega) | (rw [ByteArray.size_append, ByteArray.size_append, hs1, hs3, hc1]; omega) | (rw [ByteArray.size_append, hs1, hs3]; omega) | (rw [ByteArray.size_append, hc1]; omega), ?_⟩
    first
      | exact src_end HS4.out HG4.out _
      | exact src_end HS3.out HG3.out _
      | exact src_end HS2.out HG2.out _
end Go.Proofs.YtmjlblbhakppfaaGreatDoor
namespace Go.Proofs.YtmjlblbhakppfaaGreatDoor
open Go.RowKit

def Nd.cells (n : Nd) : List Value := [.int .i64 n.op, .string n.name, .string n.peer, .int .i64 n.many, .int .i64 n.sort]
theorem Nd.cells_len (n : Nd) : n.cells.length = 5 := rfl
theorem Nd.cells_one (n : Nd) : ∀ u ∈ n.cells, u.oneCell' = true := by
  intro u hu
  simp [Nd.cells] at hu
  rcases hu with rfl | rfl | rfl | rfl | rfl <;> rfl
theorem nds_one (l : List Nd) : ∀ u ∈ l.flatMap Nd.cells, u.oneCell' = true := fun u hu => by
  obtain ⟨x, _, hx⟩ := List.mem_flatMap.1 hu
  exact Nd.cells_one x u hx
def NdOwn (w : World) (base : Nat) (v : Value) (l : List Nd) : Prop := w.ownsRow base 45 5 v l.length (l.flatMap Nd.cells)
theorem NdOwn.below {w w' : World} {base : Nat} {v : Value} {l : List Nd} (h : NdOwn w base v l) (hb : Below w.heap.size w w') : NdOwn w' base v l := owns_below h hb
theorem NdOwn.snoc {w : World} {base : Nat} {v : Value} {l r : List Nd} (h : w.ownsRow base 45 5 v (l.length + r.length) (l.flatMap Nd.cells ++ r.flatMap Nd.cells)) : NdOwn w base v (l ++ r) := by
  unfold NdOwn
  rw [List.length_append, List.flatMap_append]
  exact h
theorem NdOwn.at_ {w : World} {base : Nat} {v : Value} {l : List Nd} (h : NdOwn w base v l) (hne : 0 < l.length) : ∃ g c, v = .slice (some ⟨g, 0, none⟩) l.length c ∧ g < w.heap.size ∧ base ≤ g := by
  rcases h.2 with ⟨_, h0⟩ | ⟨g, cap, cur, hv, hg, hblk, _⟩
  · omega
  · exact ⟨g, cap, hv, (Array.getElem?_eq_some_iff.1 hblk).1, hg⟩
theorem NdOwn.cell {w : World} {base g c : Nat} {l : List Nd} (h : NdOwn w base (.slice (some ⟨g, 0, none⟩) l.length c) l) (j : Nat) (u : Value) (hj : (l.flatMap Nd.cells)[j]? = some u) : w.cell? (Addr.add ⟨g, 0, none⟩ j) = some u := by
  have e : Addr.add ⟨g, 0, none⟩ j = ⟨g, j, none⟩ := by
    unfold Addr.add
    split <;> simp_all
  rw [e]
  exact owns_cell h rfl j u hj
theorem nd_lit (w : World) (n : Nd) (base b : Nat) (hb : b = w.heap.size) (hB : base ≤ w.heap.size) : NdOwn (w.alloc (.cells #[.int .i64 n.op, .string n.name, .string n.peer, .int .i64 n.many, .int .i64 n.sort] 45)) base (.slice (some ⟨b, 0, none⟩) 1 1) [n] := by
  subst hb
  have := World.ownsRow_lit (e := 45) (size := 5) (base := base) w #[.int .i64 n.op, .string n.name, .string n.peer, .int .i64 n.many, .int .i64 n.sort] 1 hB (by simp [maxLen]) rfl
  unfold NdOwn
  simpa [Nd.cells] using this
theorem Tryz.infoNd : (Tryz.prog.info? 45).map (fun i => (i.zero, i.size, i.bytes)) = some (some (.agg #[.int .i64 0, .string ByteArray.empty, .string ByteArray.empty, .int .i64 0, .int .i64 0]), 5, 56) := by kernel_rfl
end Go.Proofs.YtmjlblbhakppfaaGreatDoor
namespace Go.Proofs.YtmjlblbhakppfaaGreatDoor
open Go.RowKit

theorem setCell_apart (w : World) (b o : Nat) (x : Value) : Apart w (w.setCell ⟨b, o, none⟩ x) [b] := Apart.setCell ⟨rfl, rfl, rfl, Nat.le_refl _, fun _ _ _ => rfl⟩ o x
theorem owns_down {w : World} {base base' e size n : Nat} {v : Value} {xs : List Value} (h : w.ownsRow base e size v n xs) (hb : base' ≤ base) : w.ownsRow base' e size v n xs := by
  obtain ⟨h1, h2⟩ := h
  refine ⟨h1, ?_⟩
  rcases h2 with h2 | ⟨g, cap, cur, a, b, c⟩
  · exact .inl h2
  · exact .inr ⟨g, cap, cur, a, Nat.le_trans hb b, c⟩
theorem stepM_at {P : Program} {ops : Array Oper} {o : Oper} {a : Act} {w : World} {K : Act → World → Prop} {Q : Exit → Act → World → Prop} {E : Prop}
    (hg : o.guard = none) (s x : Operand) (t : TypeId) (hop : o.op = Op.call { callee := Callee.builtin Builtin.append, args := #[s, x], argTypes := #[t, t] })
    (base : Nat) (e : TypeId) (i : TypeInfo) (z : Value) (size bytes : Nat) (h1 : P.underlying t = some (.slice e)) (h2 : P.info? e = some i) (h3 : i.zero = some z) (h4 : i.size = size) (h5 : i.bytes = bytes) (h6 : z.cells.size = size) (h7 : 0 < size)
    (v : Value) (n : Nat) (xs : List Value) (hs : a.eval s = v) (hown : w.ownsRow base e size v n xs)
    (ad : Addr) (m c : Nat) (news : List Value) (hx : a.eval x = .slice (some ad) m c) (hn : news.length = m * size) (hc : ∀ j u, news[j]? = some u → w.cell? (ad.add j) = some u) (h1c : ∀ u ∈ news, u.oneCell' = true)
    (b1 : n + m ≤ maxLen) (b2 : (n + m) * bytes ≤ 140737488355328) (hbase : base ≤ w.heap.size)
    (hK : ∀ v' w', w'.ownsRow base e size v' (n + m) (xs ++ news) → w.grownBy w' v.ownBlock → (v'.ownBlock = v.ownBlock ∨ v'.ownBlock = some w.heap.size) → K (a.put o.dst v') w') :
    if Region.wanted o (yielded ops a.tmps) = true then Oper.wp P o a w K Q else E := by
  have hw : Region.wanted o (yielded ops a.tmps) = true := by simp [Region.wanted, hg]
  rw [if_pos hw]
  obtain ⟨v', w', hrun, r1, r2, _, r3⟩ := run_append_own_at (P := P) w base t o.type e i z size bytes h1 h2 h3 h4 h5 h6 h7 v n xs hown ad m c news hn hc h1c b1 b2 hbase
  unfold Oper.wp
  simp [execOp, hop, resolve, invoke, builtin, hs, hx, hrun, Result.andThen]
  exact hK v' w' r1 r2 r3
theorem Apart.sub {w w' : World} {l l' : List Nat} (h : Apart w w' l) (hs : ∀ b ∈ l, b ∈ l') : Apart w w' l' := ⟨h.os, h.tape, h.output, h.size, fun b hb hn => h.block b hb (fun hm => hn (hs b hm))⟩
structure BoxL (w : World) (b : Nat) (vs : List Value) : Prop where
  cell : ∀ i v, vs[i]? = some v → w.cell? ⟨b, i, none⟩ = some v
  fz : ∀ o, w.frozen? ⟨b, o, none⟩ = false
  lt : b < w.heap.size
theorem BoxL.keep {w w' : World} {b : Nat} {vs : List Value} {l : List Nat} (h : BoxL w b vs) (ha : Apart w w' l) (hl : b ∉ l) : BoxL w' b vs :=
  ⟨fun i v hv => ha.cell' (h.cell i v hv) hl, fun o => ha.frozen' h.lt (h.fz o) hl, Nat.lt_of_lt_of_le h.lt ha.size⟩
theorem BoxL.set {w : World} {b : Nat} {vs : List Value} (h : BoxL w b vs) (k : Nat) (hk : k < vs.length) (y : Value) : BoxL (w.setCell ⟨b, k, none⟩ y) b (vs.set k y) := by
  refine ⟨fun i v hv => ?_, fun o => (World.frozen?_setCell ..).trans (h.fz o), by rw [World.size_setCell]; exact h.lt⟩
  by_cases hi : k = i
  · subst hi
    rw [List.getElem?_set_self hk] at hv
    injection hv with hv
    subst hv
    exact World.cell?_setCell_same _ _ _ (h.cell k vs[k] (by simp [hk]))
  · rw [List.getElem?_set_ne hi] at hv
    rw [World.cell?_setCell_other _ _ _ _ (by intro e; injection e with _ e2; exact hi e2)]
    exact h.cell i v hv
theorem BoxL.new (w : World) (vs : List Value) (T : TypeId) : BoxL (w.alloc (.cells vs.toArray T)) w.heap.size vs := by
  refine ⟨fun i v hv => ?_, fun o => by simp, by simp⟩
  obtain ⟨h1, h2⟩ := List.getElem?_eq_some_iff.1 hv
  simp [h1, h2]
end Go.Proofs.YtmjlblbhakppfaaGreatDoor
namespace Go.Proofs.YtmjlblbhakppfaaGreatDoor
open Go.RowKit

def kidsBy (go : List Nd → Option (List Nd)) : Nat → List ByteArray → List Nd → Option (List Nd)
  | 0, _, l => some l
  | _ + 1, _, [] => none
  | m + 1, ls, n :: l =>
    if caseB n && !hasB ls n.name then
      match go l with
      | none => none
      | some r => kidsBy go m (ls ++ [n.name]) r
    else none

def ahead (T : Nd → Bool) : Nat → List Nd → List Nd → Option (List Nd)
  | _, _, [] => none
  | 0, st, n :: l =>
    if n.op == 0 then (if endB n then some l else none)
    else if n.op == 1 then (if varB n && backB false st n.name then some l else none)
    else none
  | f + 1, st, n :: l =>
    if n.op == 0 then (if endB n then some l else none)
    else if n.op == 1 then (if varB n && backB false st n.name then some l else none)
    else if n.op == 2 then (if recB n && !withinB st n.name then ahead T f (n :: st) l else none)
    else if T n then kidsBy (ahead T f (n :: st)) n.many.toNat [] l else none

def Told (w' : World) (B : Nat) (e : Ending) (r : Option (List Nd)) : Prop :=
  ∃ v, e = .returned (.tuple #[v, .bool r.isSome]) ∧ (∀ l, r = some l → SlAt w' B v l)

def PlanCalls (f : Nat) : Prop := ∀ (st l : List Nd) (v p : Value) (w : World) (B : Nat), st.length + f = 10 → (∀ n ∈ l, n.ok) → B ≤ w.heap.size → SlAt w B v l → PlaceAt w p st →
  Calls Tryz.prog 80 #[v, p] w fun e w' => Told w' B e (ahead talkI f st l) ∧ Below w.heap.size w w'

theorem Tryz.infoS : (Tryz.prog.info? 9).map (fun i => (i.zero, i.size, i.bytes)) = some (some (.string ByteArray.empty), 1, 16) := by kernel_rfl

theorem kids_nil {go : List Nd → Option (List Nd)} {m : Nat} {ls : List ByteArray} (h : 0 < m) : kidsBy go m ls [] = none := by
  cases m with
  | zero => omega
  | succ m => rfl
theorem kids_no {go : List Nd → Option (List Nd)} {m : Nat} {ls : List ByteArray} {n : Nd} {l : List Nd} (h : 0 < m) (hc : (caseB n && !hasB ls n.name) = false) : kidsBy go m ls (n :: l) = none := by
  cases m with
  | zero => omega
  | succ m => rw [kidsBy, if_neg (by simp [hc])]
theorem kids_stop {go : List Nd → Option (List Nd)} {m : Nat} {ls : List ByteArray} {n : Nd} {l : List Nd} (h : 0 < m) (hc : (caseB n && !hasB ls n.name) = true) (hg : go l = none) : kidsBy go m ls (n :: l) = none := by
  cases m with
  | zero => omega
  | succ m => rw [kidsBy, if_pos hc, hg]
theorem kids_on {go : List Nd → Option (List Nd)} {m k : Nat} {ls : List ByteArray} {n : Nd} {l r : List Nd} (h : k < m) (hc : (caseB n && !hasB ls n.name) = true) (hg : go l = some r) : kidsBy go (m - k) ls (n :: l) = kidsBy go (m - (k + 1)) (ls ++ [n.name]) r := by
  rw [show m - k = (m - (k + 1)) + 1 from by omega, kidsBy, if_pos hc, hg]

theorem kids_suffix {go : List Nd → Option (List Nd)} (hg : ∀ l r, go l = some r → r <:+ l) : ∀ (m : Nat) (ls : List ByteArray) (l r : List Nd), kidsBy go m ls l = some r → r <:+ l
  | 0, _, l, r, h => by cases h; exact List.suffix_refl _
  | _ + 1, _, [], r, h => by cases h
  | m + 1, ls, n :: l, r, h => by
    rw [kidsBy] at h
    split at h
    · split at h
      · cases h
      · rename_i r' hr'
        exact (kids_suffix hg m _ _ _ h).trans ((hg _ _ hr').trans (List.suffix_cons _ _))
    · cases h
theorem ahead_suffix (T : Nd → Bool) : ∀ (f : Nat) (st l r : List Nd), ahead T f st l = some r → r <:+ l := by
  intro f
  induction f with
  | zero =>
    intro st l r h
    cases l with
    | nil => cases h
    | cons n l =>
      rw [ahead] at h
      repeat' split at h
      all_goals first | cases h; exact List.suffix_cons _ _ | cases h
  | succ f ih =>
    intro st l r h
    cases l with
    | nil => cases h
    | cons n l =>
      rw [ahead] at h
      repeat' split at h
      all_goals first
        | (cases h; exact List.suffix_cons _ _)
        | (cases h; done)
        | exact (ih _ _ _ h).trans (List.suffix_cons _ _)
        | exact (kids_suffix (ih _) _ _ _ _ h).trans (List.suffix_cons _ _)

theorem SlAt.tail {w : World} {B b o cap : Nat} {n : Nd} {l : List Nd} (hlt : b < B) (hr : RowAt w b o (n :: l)) (hc : (n :: l).length ≤ cap) (hm : cap ≤ 9223372036854775807 ∧ l.length < 4294967296) (ao : Option Addr) (ha : cap ≠ 1 → ao = some ⟨b, o + 5, none⟩) :
    SlAt w B (.slice ao l.length (cap - 1)) l := by
  refine ⟨ao, cap - 1, rfl, by simp at hc; omega, by omega, fun hne => ?_⟩
  have : 0 < l.length := List.length_pos_iff.2 hne
  simp at hc
  exact ⟨b, o + 5, ha (by omega), hlt, hr.2⟩

set_option maxRecDepth 100000 in
set_option maxHeartbeats 1000000 in
theorem cases_ahead (f : Nat) (hf : PlanCalls f) (n : Nd) (st l : List Nd) (v p : Value) (w : World) (B : Nat) (hlen : (n :: st).length + f = 10) (hm : 1 ≤ n.many ∧ n.many ≤ 4) (ok : ∀ n ∈ l, n.ok) (hB : B ≤ w.heap.size) (hv : SlAt w B v l) (hp : PlaceAt w p (n :: st)) :
    Calls Tryz.prog 116 #[v, p] w fun e w' => Told w' B e (kidsBy (ahead talkI f (n :: st)) n.many.toNat [] l) ∧ Below w.heap.size w w' := by
  have HP := hide hp
  have HV := hide hv
  have HF := hide hf
  have HO := hide ok
  have HL := hide hlen
  have hB' := hide hB
  obtain ⟨bp, q, rfl, ⟨h0, h1, h2, h3, h4⟩, h5, h6, h⟩ := hp
  obtain ⟨i0, hi, hz0, hz1, hz2⟩ := info_parts Tryz.infoS
  obtain ⟨m, hmm⟩ : ∃ m : Nat, n.many = m := ⟨n.many.toNat, by omega⟩
  rw [hmm] at hm h3
  have hm1 : 1 ≤ m := by omega
  have hm4 : m ≤ 4 := by omega
  rw [hmm, Int.toNat_natCast]
  obtain ⟨go, hgo⟩ : ∃ go, ahead talkI f (n :: st) = go := ⟨_, rfl⟩
  rw [hgo]
  have HG := hide hgo
  have HI := hide (And.intro hi (And.intro hz0 (And.intro hz1 hz2)))
  clear hf ok hv h0 h1 h2 h4 h5 h6 h hm hmm hlen hgo hB hi hz0 hz1 hz2
  go_enter Tryz.func116, Tryz.ntmps116
  go_wp2_with fail
  go_loopw [0, 6, 14] (fun v labels i wr => ∃ (k : Nat) (cur : List Nd) (ls : List ByteArray), k ≤ m ∧ i = .int .i64 k ∧ ls.length = k ∧ (∀ n ∈ cur, n.ok) ∧ SlAt wr B v cur ∧ wr.ownsRow w.heap.size 9 1 labels ls.length (ls.map Value.string) ∧ Below w.heap.size w wr ∧ kidsBy go (m - k) ls cur = kidsBy go m [] l)
    (fun _ _ i _ => m - (intOf i).toNat)
  case atStart => exact ⟨0, l, [], Nat.zero_le _, rfl, rfl, HO.out, HV.out, World.ownsRow_nil _ _ _ _, Below.refl _ _, rfl⟩
  case round =>
    obtain ⟨k, cur, ls, hk, rfl, hlk, hok, hsl, hown, hbel, hkid⟩ := hrel
    have HLK := hide hlk
    have HOK := hide hok
    have HSL := hide hsl
    have HOWN := hide hown
    have HBEL := hide hbel
    have HKID := hide hkid
    clear hlk hok hown hbel hkid
    obtain ⟨ao, cap, rfl, hc1, hc2, hrow⟩ := hsl
    have HROW := hide hrow
    clear hrow
    by_cases hlt : k < m
    · cases cur with
      | nil =>
        go_wp2_with fail
        go_ret2
        refine ⟨⟨.slice none 0 0, ?_, ?_⟩, HBEL.out⟩
        · rw [← HKID.out, kids_nil (by omega)]; rfl
        · rw [← HKID.out, kids_nil (by omega)]; intro l h; cases h
      | cons n1 l1 =>
        obtain ⟨b, o, rfl, hbB, hrow⟩ := HROW.out (by simp)
        have HR := hide hrow
        obtain ⟨⟨c0, c1, c2, c3, c4⟩, -⟩ := hrow
        have HBB := hide hbB
        have HN1 := hide (HOK.out n1 (by simp))
        have HTX := hide (texts_own HOWN.out (by have := HLK.out; omega))
        have hbw : b < wr.heap.size := World.block_lt_of_cell? wr _ c0
        have hz : ((l1.length : Int) + 1 == 0) = false := beq_eq_false_iff_ne.2 (by omega)
        have HC1 := hide hc1
        have HC2 := hide hc2
        simp only [List.length_cons] at hc1
        cases hcb : caseB n1
        · have HCB := hide hcb
          clear hcb
          go_wp2_with (go_at_call 139; refine (case_right n1 _ HN1.out).mono ?_; rintro e w1 ⟨rfl, hb1⟩; rw [HCB.out]; have HB1 := hide hb1; clear hb1)
          go_ret2
          have hno : kidsBy go m [] l = none := by rw [← HKID.out]; exact kids_no (by omega) (by rw [HCB.out]; rfl)
          refine ⟨⟨.slice none 0 0, ?_, ?_⟩, HBEL.out.trans (HB1.out.mono HBEL.out.size)⟩
          · rw [hno]; rfl
          · rw [hno]; intro l h; cases h
        · have HCB := hide hcb
          clear hcb
          cases hhb : hasB ls n1.name
          · have HHB := hide hhb
            clear hhb
            have HYES := hide (show (caseB n1 && !hasB ls n1.name) = true by rw [HCB.out, HHB.out]; rfl)
            go_wp2_with (first | (go_at_call 139; refine (case_right n1 _ HN1.out).mono ?_; rintro e w1 ⟨rfl, hb1⟩; rw [HCB.out]; obtain ⟨g0, g1, g2, g3, g4⟩ := (HR.out.1.carry hbw hb1); have HT1 := hide (HTX.out.carry hb1); have HOW1 := hide (own_below HOWN.out hb1); have hs1 := hb1.size; have HB1 := hide hb1; clear hb1) | (go_at_call 52; refine (s_contains ls n1.name _ _ HT1.out).mono ?_; rintro e w2 ⟨rfl, rfl⟩; rw [HHB.out]) | (at_builtin; refine wpList_append_own _ rfl (.tmp 34) (.tmp 39) 30 rfl w.heap.size 9 i0 (.string ByteArray.empty) 1 16 Tryz.underlying30 HI.out.1 HI.out.2.1 HI.out.2.2.1 HI.out.2.2.2 rfl (by decide) _ _ _ rfl (HOW1.out.alloc _) ⟨_, 0, none⟩ 1 1 [.string n1.name] rfl rfl ?c1 ?c2 ?c3 ?c4 ?c5 ?_))
            case c1 =>
              intro j u hj
              match j, hj with
              | 0, hj => simp at hj; subst hj; simp [Addr.add]
            case c2 => intro u hu; simp at hu; subst hu; rfl
            case c3 => have := HLK.out; unfold maxLen; omega
            case c4 => have := HLK.out; omega
            case c5 => have := HBEL.out.size; simp; omega
            intro v' w3 hown3 hgrow3 _
            have HOW3 := hide hown3
            have HWR3 := hide ((HB1.out.mono HBEL.out.size).trans (((alloc1 _ _).mono (by have := HBEL.out.size; omega)).grown hgrow3 (by have := HBEL.out.size; simp; omega) (own_row HOW1.out)))
            have HBel3 := hide (HBEL.out.trans HWR3.out)
            have HS3 : Hid (∀ ao', (cap ≠ 1 → ao' = some ⟨b, o + 5, none⟩) → SlAt w3 B (.slice ao' l1.length (cap - 1)) l1) := hide (fun ao' h => SlAt.tail HBB.out (HR.out.carry (Nat.lt_of_lt_of_le HBB.out hB'.out) HWR3.out) HC1.out HC2.out ao' h)
            have HP3 := hide (PlaceAt.carry HBel3.out HP.out)
            clear hown3 hgrow3
            by_cases hcap : cap = 1
            · have HL1 : Hid (l1.length = 0) := hide (by omega)
              have HSX : Hid (SlAt w3 B (.slice (some ⟨b, o, none⟩) 0 0) l1) := hide (by rw [List.length_eq_zero_iff.1 HL1.out]; exact ⟨_, _, rfl, Nat.le_refl _, by simp, fun h => absurd rfl h⟩)
              subst hcap
              cases hgo1 : go l1 with
              | none =>
                have HG1 := hide hgo1
                clear hgo1
                go_wp2_with (go_at_call 80; refine (HF.out (n :: st) l1 _ _ _ B HL.out (fun x hx => HOK.out x (List.mem_cons_of_mem _ hx)) (Nat.le_trans hB'.out HBel3.out.size) HSX.out HP3.out).mono ?_; rintro e w4 ⟨⟨v4, rfl, hs4⟩, hb4⟩; rw [HG.out, HG1.out, Option.isSome_none]; have HB4 := hide hb4; clear hs4 hb4)
                go_ret2
                have hno : kidsBy go m [] l = none := by rw [← HKID.out]; exact kids_stop (by omega) HYES.out HG1.out
                refine ⟨⟨.slice none 0 0, ?_, ?_⟩, HBel3.out.trans (HB4.out.mono HBel3.out.size)⟩
                · rw [hno]; rfl
                · rw [hno]; intro l h; cases h
              | some r =>
                have HG1 := hide hgo1
                clear hgo1
                go_wp2_with (go_at_call 80; refine (HF.out (n :: st) l1 _ _ _ B HL.out (fun x hx => HOK.out x (List.mem_cons_of_mem _ hx)) (Nat.le_trans hB'.out HBel3.out.size) HSX.out HP3.out).mono ?_; rintro e w4 ⟨⟨v4, rfl, hs4⟩, hb4⟩; rw [HG.out, HG1.out] at hs4 ⊢; rw [Option.isSome_some]; replace hs4 := hs4 r rfl; have HS4 := hide hs4; obtain ⟨ao4, cap4, rfl, hs5⟩ := hs4; have HB4 := hide hb4; clear hs5 hb4)
                go_roundw
                case rel =>
                  refine ⟨k + 1, r, ls ++ [n1.name], by omega, by go_num, by have := HLK.out; simp; omega, fun x hx => HOK.out x (List.mem_cons_of_mem _ ((ahead_suffix talkI f (n :: st) l1 r (by rw [HG.out]; exact HG1.out)).subset hx)), HS4.out, ?_, HBel3.out.trans (HB4.out.mono HBel3.out.size), ?_⟩
                  · have := own_below HOW3.out HB4.out
                    simpa using this
                  · rw [← HKID.out]
                    exact (kids_on hlt HYES.out HG1.out).symm
                case measure => simp [intOf]; omega
            · have HSX := hide (HS3.out _ (fun _ => rfl))
              cases hgo1 : go l1 with
              | none =>
                have HG1 := hide hgo1
                clear hgo1
                go_wp2_with (go_at_call 80; refine (HF.out (n :: st) l1 _ _ _ B HL.out (fun x hx => HOK.out x (List.mem_cons_of_mem _ hx)) (Nat.le_trans hB'.out HBel3.out.size) HSX.out HP3.out).mono ?_; rintro e w4 ⟨⟨v4, rfl, hs4⟩, hb4⟩; rw [HG.out, HG1.out, Option.isSome_none]; have HB4 := hide hb4; clear hs4 hb4)
                go_ret2
                have hno : kidsBy go m [] l = none := by rw [← HKID.out]; exact kids_stop (by omega) HYES.out HG1.out
                refine ⟨⟨.slice none 0 0, ?_, ?_⟩, HBel3.out.trans (HB4.out.mono HBel3.out.size)⟩
                · rw [hno]; rfl
                · rw [hno]; intro l h; cases h
              | some r =>
                have HG1 := hide hgo1
                clear hgo1
                go_wp2_with (go_at_call 80; refine (HF.out (n :: st) l1 _ _ _ B HL.out (fun x hx => HOK.out x (List.mem_cons_of_mem _ hx)) (Nat.le_trans hB'.out HBel3.out.size) HSX.out HP3.out).mono ?_; rintro e w4 ⟨⟨v4, rfl, hs4⟩, hb4⟩; rw [HG.out, HG1.out] at hs4 ⊢; rw [Option.isSome_some]; replace hs4 := hs4 r rfl; have HS4 := hide hs4; obtain ⟨ao4, cap4, rfl, hs5⟩ := hs4; have HB4 := hide hb4; clear hs5 hb4)
                go_roundw
                case rel =>
                  refine ⟨k + 1, r, ls ++ [n1.name], by omega, by go_num, by have := HLK.out; simp; omega, fun x hx => HOK.out x (List.mem_cons_of_mem _ ((ahead_suffix talkI f (n :: st) l1 r (by rw [HG.out]; exact HG1.out)).subset hx)), HS4.out, ?_, HBel3.out.trans (HB4.out.mono HBel3.out.size), ?_⟩
                  · have := own_below HOW3.out HB4.out
                    simpa using this
                  · rw [← HKID.out]
                    exact (kids_on hlt HYES.out HG1.out).symm
                case measure => simp [intOf]; omega
          · have HHB := hide hhb
            clear hhb
            go_wp2_with (first | (go_at_call 139; refine (case_right n1 _ HN1.out).mono ?_; rintro e w1 ⟨rfl, hb1⟩; rw [HCB.out]; obtain ⟨g0, g1, g2, g3, g4⟩ := (HR.out.1.carry hbw hb1); have HT1 := hide (HTX.out.carry hb1); have HB1 := hide hb1; clear hb1) | (go_at_call 52; refine (s_contains ls n1.name _ _ HT1.out).mono ?_; rintro e w2 ⟨rfl, rfl⟩; rw [HHB.out]))
            go_ret2
            have hno : kidsBy go m [] l = none := by rw [← HKID.out]; exact kids_no (by omega) (by rw [HCB.out, HHB.out]; rfl)
            refine ⟨⟨.slice none 0 0, ?_, ?_⟩, HBEL.out.trans (HB1.out.mono HBEL.out.size)⟩
            · rw [hno]; rfl
            · rw [hno]; intro l h; cases h
    · go_wp2_with fail
      go_ret2
      have hkm : k = m := by omega
      refine ⟨⟨.slice ao cur.length cap, ?_, ?_⟩, HBEL.out⟩
      · rw [← HKID.out, hkm, Nat.sub_self]; rfl
      · rw [← HKID.out, hkm, Nat.sub_self]; intro l h; cases h; exact HSL.out
end Go.Proofs.YtmjlblbhakppfaaGreatDoor
namespace Go.Proofs.YtmjlblbhakppfaaGreatDoor
open Go.RowKit

theorem new_row1 (w : World) (cs : List Value) (t : TypeId) (j : Nat) (u : Value) (h : cs[j]? = some u) : (w.alloc (.cells cs.toArray t)).cell? (Addr.add ⟨w.heap.size, 0, none⟩ j) = some u := by
  have e : (w.alloc (.cells cs.toArray t)).heap[w.heap.size]? = some (.cells cs.toArray t) := mheap_new _ _ _ rfl
  have ea : Addr.add ⟨w.heap.size, 0, none⟩ j = ⟨w.heap.size, j, none⟩ := by
    unfold Addr.add
    split <;> simp_all
  rw [ea]
  simp only [World.cell?]
  rw [e]
  simpa using h
theorem Tryz.infoStrR : (Tryz.prog.info? 9).map (fun i => (i.zero, i.size, i.bytes)) = some (some (.string ByteArray.empty), 1, 16) := by kernel_rfl
end Go.Proofs.YtmjlblbhakppfaaGreatDoor
