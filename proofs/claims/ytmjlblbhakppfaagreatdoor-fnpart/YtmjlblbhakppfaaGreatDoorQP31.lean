import Derived.Test.YtmjlblbhakppfaaGreatDoorQP27
import Derived.Test.YtmjlblbhakppfaaGreatDoorQP15
import Derived.Deep.LoopGhost
namespace Go.Proofs.YtmjlblbhakppfaaGreatDoor
open Go.RowKit
set_option linter.unusedSimpArgs false
set_option linter.unusedVariables false

structure Skept (w w' : World) (base rb : Nat) : Prop where
  os : w'.os = w.os
  tape : w'.tape = w.tape
  output : w'.output = w.output
  size : w.heap.size ≤ w'.heap.size
  block : ∀ b, b < base → b ≠ rb → w'.heap[b]? = w.heap[b]?
theorem Skept.refl (w : World) (base rb : Nat) : Skept w w base rb := ⟨rfl, rfl, rfl, Nat.le_refl _, fun _ _ _ => rfl⟩
theorem Skept.trans {a b c : World} {base rb : Nat} (h : Skept a b base rb) (h' : Skept b c base rb) : Skept a c base rb :=
  ⟨h'.os.trans h.os, h'.tape.trans h.tape, h'.output.trans h.output, Nat.le_trans h.size h'.size, fun k hk hn => (h'.block k hk hn).trans (h.block k hk hn)⟩
theorem Apart.skept {w w' : World} {l : List Nat} {base rb : Nat} (h : Apart w w' l) (hb : base ≤ w.heap.size) (hl : ∀ b ∈ l, b = rb ∨ base ≤ b) : Skept w w' base rb :=
  ⟨h.os, h.tape, h.output, h.size, fun b hlt hn => h.block b (Nat.lt_of_lt_of_le hlt hb) (fun hm => by rcases hl b hm with q | q; exact hn q; omega)⟩
structure SrAt (W : World) (rb base : Nat) (t : ByteArray) (part : Bool) (a : Nat) (lv : Value) (l : List Nd) (bad : Bool) : Prop where
  box : BoxL W rb [.string t, .int .i64 (a : Int), lv, .bool part, .bool bad]
  row : NdOwn W base lv l
  at_ : a ≤ t.size
  low : rb < base
  sz : base ≤ W.heap.size
theorem SrAt.keep {W W' : World} {rb base : Nat} {t : ByteArray} {part : Bool} {a : Nat} {lv : Value} {l : List Nd} {bad : Bool} (h : SrAt W rb base t part a lv l bad) (ha : Apart W W' []) : SrAt W' rb base t part a lv l bad :=
  ⟨h.box.keep ha (by simp), owns_keep h.row ha (fun _ _ => by simp), h.at_, h.low, Nat.le_trans h.sz ha.size⟩
theorem SrAt.moved {W W' : World} {rb base : Nat} {t : ByteArray} {part : Bool} {a a' : Nat} {lv : Value} {l : List Nd} {bad bad' : Bool} (h : SrAt W rb base t part a lv l bad) (ha : Apart W W' [rb]) (hb : BoxL W' rb [.string t, .int .i64 (a' : Int), lv, .bool part, .bool bad']) (ha' : a' ≤ t.size) : SrAt W' rb base t part a' lv l bad' :=
  ⟨hb, owns_keep h.row ha (fun b hm hn => by have := (owns_fresh h.row).lo b hm; simp at hn; have := h.low; omega), ha', h.low, Nat.le_trans h.sz ha.size⟩
theorem SrAt.push {W w4 : World} {rb base : Nat} {t : ByteArray} {part : Bool} {a : Nat} {lv v4 : Value} {l : List Nd} {bad : Bool} (h : SrAt W rb base t part a lv l bad) (n : Nd) (o : Obj)
    (hown : w4.ownsRow base 45 5 v4 (l.length + 1) (l.flatMap Nd.cells ++ n.cells)) (hg : (W.alloc o).grownBy w4 lv.ownBlock) (hat : v4.ownBlock = lv.ownBlock ∨ v4.ownBlock = some (W.alloc o).heap.size) :
    SrAt (w4.setCell ⟨rb, 2, none⟩ v4) rb base t part a v4 (l ++ [n]) bad ∧ Skept W (w4.setCell ⟨rb, 2, none⟩ v4) base rb ∧ BoxL w4 rb [.string t, .int .i64 (a : Int), lv, .bool part, .bool bad] := by
  obtain ⟨hA, hs⟩ := row_sub h.row o hown hg hat
  have lo := (owns_fresh h.row).lo
  have lo4 := (owns_fresh hown).lo
  have hl := h.low
  have hS := setCell_apart w4 rb 2 v4
  have hA2 := hA.trans hS
  have hB := h.box.keep hA (fun hb => by have := lo _ hb; omega)
  refine ⟨⟨hB.set 2 (by simp) _, ?_, h.at_, h.low, Nat.le_trans h.sz hA2.size⟩, hA2.skept h.sz (fun b hb => ?_), hB⟩
  · unfold NdOwn
    rw [List.length_append, List.flatMap_append]
    have := owns_keep hown hS (fun b hb hm => by have := lo4 b hb; simp at hm; omega)
    simpa using this
  · rw [List.mem_append] at hb
    rcases hb with hb | hb
    · exact .inr (lo b hb)
    · simp at hb; exact .inl hb
theorem cells_many (l : List Nd) (i m : Nat) (h : i < l.length) : (l.flatMap Nd.cells).set (i * 5 + 3) (.int .i64 (m : Int)) = (setMany l i m).flatMap Nd.cells := by
  unfold setMany
  induction l generalizing i with
  | nil => simp at h
  | cons a l ih =>
    cases i with
    | zero => rfl
    | succ i =>
      rw [List.modify_succ_cons, List.flatMap_cons, List.flatMap_cons, List.set_append_right _ _ (by rw [Nd.cells_len]; omega), Nd.cells_len, show (i + 1) * 5 + 3 - 5 = i * 5 + 3 by omega]
      congr 1
      exact ih i (by simpa using h)
theorem SrAt.many {W : World} {rb base : Nat} {t : ByteArray} {part : Bool} {a g c : Nat} {l : List Nd} {bad : Bool} (h : SrAt W rb base t part a (.slice (some ⟨g, 0, none⟩) l.length c) l bad) (i m : Nat) (hi : i < l.length) :
    SrAt (W.setCell ⟨g, i * 5 + 3, none⟩ (.int .i64 (m : Int))) rb base t part a (.slice (some ⟨g, 0, none⟩) l.length c) (setMany l i m) bad ∧ Skept W (W.setCell ⟨g, i * 5 + 3, none⟩ (.int .i64 (m : Int))) base rb := by
  have hA := setCell_apart W g (i * 5 + 3) (.int .i64 (m : Int))
  have hg : g ∈ vblocks (.slice (some ⟨g, 0, none⟩) l.length c) := by simp [vblocks, cellBlocks]
  have h1 := (owns_fresh h.row).lo g hg
  have hl := h.low
  refine ⟨⟨h.box.keep hA (by simp; omega), ?_, h.at_, h.low, Nat.le_trans h.sz hA.size⟩, hA.skept h.sz (fun b hb => by simp at hb; omega)⟩
  have hr := h.row
  unfold NdOwn at hr ⊢
  obtain ⟨h2, h3⟩ := hr
  rw [set_mlen]
  refine ⟨by rw [cells_len2, set_mlen], ?_⟩
  rcases h3 with ⟨e, _⟩ | ⟨g', cap, cur, e, hg', hb, h4, h5, h6, h7⟩
  · simp at e
  · injection e with e1 e2 e3
    injection e1 with e1
    injection e1 with e1
    subst e1 e3
    refine .inr ⟨g, c, cur.setIfInBounds (i * 5 + 3) (.int .i64 (m : Int)), rfl, hg', heap_setCell_same _ _ _ _ _ _ hb, h4, h5, by simpa using h6, ?_⟩
    rw [Array.toList_setIfInBounds, List.take_set, h7]
    exact cells_many l i m hi
theorem t_is (x : List UInt8) {t : ByteArray} {a rb base : Nat} {lv : Value} {part bad : Bool} {l : List Nd} {w : World} (hx : x.length ≤ 8000) (ht : t.size ≤ 8000) (h : SrAt w rb base t part a lv l bad) :
    Calls Tryz.prog 123 #[.pointer (some ⟨rb, 0, none⟩), .string (ba x)] w fun e w' => e = .returned (.bool (isQ x t a bad)) ∧ SrAt w' rb base t part (isA x t a bad) lv l bad ∧ Apart w w' [rb] :=
  (sr_is x t a rb lv part bad w hx ht h.at_ h.box).mono fun _ _ hh => ⟨hh.1, h.moved hh.2.1 hh.2.2 (isA_le h.at_), hh.2.1⟩
theorem t_must (x : List UInt8) {t : ByteArray} {a rb base : Nat} {lv : Value} {part bad : Bool} {l : List Nd} {w : World} (hx : x.length ≤ 8000) (ht : t.size ≤ 8000) (h : SrAt w rb base t part a lv l bad) :
    Calls Tryz.prog 122 #[.pointer (some ⟨rb, 0, none⟩), .string (ba x)] w fun e w' => e = .returned (.tuple #[]) ∧ SrAt w' rb base t part (isA x t a bad) lv l (!isQ x t a bad) ∧ Apart w w' [rb] :=
  (sr_must x t a rb lv part bad w hx ht h.at_ h.box).mono fun _ _ hh => ⟨hh.1, h.moved hh.2.1 hh.2.2 (isA_le h.at_), hh.2.1⟩
theorem t_word {t : ByteArray} {a rb base : Nat} {lv : Value} {part bad : Bool} {l : List Nd} {w : World} (ht : t.size ≤ 8000) (h : SrAt w rb base t part a lv l bad) :
    Calls Tryz.prog 121 #[.pointer (some ⟨rb, 0, none⟩)] w fun e w' => e = .returned (.string (ba ((t.toList.drop a).takeWhile inW))) ∧ SrAt w' rb base t part (wdA t a) lv l bad ∧ Apart w w' [rb] :=
  (sr_word t a rb lv part bad w ht h.at_ h.box).mono fun _ _ hh => ⟨hh.1, h.moved hh.2.1 hh.2.2 (wdA_le h.at_), hh.2.1⟩
def SrRes (w w' : World) (rb base : Nat) (t : ByteArray) (part : Bool) (s : Ss) : Prop := ∃ a lv l bad, s = stS t a l bad ∧ SrAt w' rb base t part a lv l bad ∧ Skept w w' base rb
def OneC (part : Bool) (t : ByteArray) (f : Nat) : Prop := ∀ (rb base a deep : Nat) (lv : Value) (l : List Nd) (bad : Bool) (w : World), f + deep = 12 → l.length ≤ 42 → SrAt w rb base t part a lv l bad →
  Calls Tryz.prog 83 #[.pointer (some ⟨rb, 0, none⟩), .int .i64 (deep : Int)] w fun e w' => e = .returned (.tuple #[]) ∧ SrRes w w' rb base t part (oneS part f (stS t a l bad))
end Go.Proofs.YtmjlblbhakppfaaGreatDoor
namespace Go.Proofs.YtmjlblbhakppfaaGreatDoor
open Go.RowKit
set_option linter.unusedSimpArgs false
set_option linter.unusedVariables false

theorem sr_one_bad (part : Bool) (t : ByteArray) (rb base a deep : Nat) (lv : Value) (l : List Nd) (bad : Bool) (w : World) (hd : deep ≤ 12) (h : deep = 12 ∨ bad = true ∨ 40 < l.length) (hl : l.length ≤ 42) (hs : SrAt w rb base t part a lv l bad) :
    Calls Tryz.prog 83 #[.pointer (some ⟨rb, 0, none⟩), .int .i64 (deep : Int)] w fun e w' => e = .returned (.tuple #[]) ∧ SrAt w' rb base t part a lv l true ∧ Skept w w' base rb := by
  have c4 := hs.box.cell 4 _ rfl
  have c2 := hs.box.cell 2 _ rfl
  have bz := hs.box.fz
  have HS := hide hs
  have HR : Hid (SrAt (w.setCell ⟨rb, 4, none⟩ (.bool true)) rb base t part a lv l true ∧ Skept w (w.setCell ⟨rb, 4, none⟩ (.bool true)) base rb) := hide ⟨hs.moved (setCell_apart w rb 4 _) (hs.box.set 4 (by simp) _) hs.at_, (setCell_apart w rb 4 _).skept hs.sz (fun b hb => by simp at hb; exact .inl hb)⟩
  obtain ⟨p, c, rfl⟩ := owns_shape hs.row
  clear hs
  cases bad
  · by_cases hdp : deep = 12
    · subst hdp
      clear h
      go_enter Tryz.func83, Tryz.ntmps83
      go_wp2_with fail
      refine bodyPost_ret (results_none rfl _ _ _) rfl ?_
      exact ⟨rfl, HR.out⟩
    · have h40 : 40 < l.length := by
        rcases h with h | h | h
        · exact absurd h hdp
        · cases h
        · exact h
      have hd2 : deep ≤ 11 := by omega
      clear h hdp
      go_enter Tryz.func83, Tryz.ntmps83
      go_wp2_with fail
      refine bodyPost_ret (results_none rfl _ _ _) rfl ?_
      exact ⟨rfl, HR.out⟩
  · clear h
    go_enter Tryz.func83, Tryz.ntmps83
    go_wp2_with fail
    refine bodyPost_ret (results_none rfl _ _ _) rfl ?_
    exact ⟨rfl, HR.out⟩
theorem node_new (w : World) (n : Nd) : ∀ j u, n.cells[j]? = some u → (w.alloc (.cells #[.int .i64 n.op, .string n.name, .string n.peer, .int .i64 n.many, .int .i64 n.sort] 45)).cell? (Addr.add ⟨w.heap.size, 0, none⟩ j) = some u := fun j u hj =>
  NdOwn.cell (l := [n]) (c := 1) (nd_lit w n 0 w.heap.size rfl (Nat.zero_le _)) j u (by simpa using hj)
theorem sr_one_end (part : Bool) (t : ByteArray) (rb base a deep : Nat) (lv : Value) (l : List Nd) (w : World) (ht : t.size ≤ 8000) (hd : deep ≤ 11) (hl : l.length ≤ 40) (X : ByteArray) (hX : ba ((t.toList.drop a).takeWhile inW) = X) (hn1 : (X.toList == [101, 110, 100]) = true) (hs : SrAt w rb base t part a lv l false) :
    Calls Tryz.prog 83 #[.pointer (some ⟨rb, 0, none⟩), .int .i64 (deep : Int)] w fun e w' => e = .returned (.tuple #[]) ∧ ∃ lv', SrAt w' rb base t part (wdA t a) lv' (l ++ [⟨0, noT, noT, 0, 0⟩]) false ∧ Skept w w' base rb := by
  have c4 := hs.box.cell 4 _ rfl
  have c2 := hs.box.cell 2 _ rfl
  have HW := t_word ht hs
  rw [hX] at HW
  have HWD := hide HW
  obtain ⟨p, c, rfl⟩ := owns_shape hs.row
  obtain ⟨i0, hi, hz0, hz1, hz2⟩ := info_parts Tryz.infoNd
  have HI := hide (And.intro hi (And.intro hz0 (And.intro hz1 hz2)))
  have HSZ := hide hs.sz
  clear hs HW hi hz0 hz1 hz2 hX
  go_enter Tryz.func83, Tryz.ntmps83
  go_wp2_with (first
    | (go_at_call 121; refine HWD.out.mono ?_; rintro e w1 ⟨rfl, hs1, ha1⟩; have HS1 := hide hs1; have HA1 := hide ha1; have d2 := hs1.box.cell 2 _ rfl; have dz := hs1.box.fz; clear hs1 ha1)
    | (at_builtin; refine wpList_append_own_at _ rfl (.tmp 45) (.tmp 47) 23 rfl base 45 i0 (.agg #[.int .i64 0, .string ByteArray.empty, .string ByteArray.empty, .int .i64 0, .int .i64 0]) 5 56 Tryz.underlying23 HI.out.1 HI.out.2.1 HI.out.2.2.1 HI.out.2.2.2 rfl (by decide) (.slice p l.length c) l.length (l.flatMap Nd.cells) rfl (owns_below HS1.out.row (malloc1 _ _)) ⟨w1.heap.size, 0, none⟩ 1 1 (Nd.cells ⟨0, noT, noT, 0, 0⟩) rfl rfl (node_new _ ⟨0, noT, noT, 0, 0⟩) (Nd.cells_one _) (by unfold maxLen; omega) (by omega) (by have := HS1.out.sz; simp; omega) ?_; intro v7 w7 hown7 hgr7 _ hat7; have HP := hide (HS1.out.push ⟨0, noT, noT, 0, 0⟩ _ hown7 hgr7 hat7); have e2 := HP.out.2.2.cell 2 _ rfl; have ez := HP.out.2.2.fz; obtain ⟨p7, c7, rfl⟩ := owns_shape hown7; clear hown7 hgr7 hat7))
  go_end0
  exact ⟨rfl, _, HP.out.1, (HA1.out.skept HSZ.out (fun b hb => by simp at hb; exact .inl hb)).trans HP.out.2.1⟩
theorem t_isF (x : List UInt8) {t : ByteArray} {a rb base : Nat} {lv : Value} {part bad : Bool} {l : List Nd} {w : World} (hx : x.length ≤ 8000) (ht : t.size ≤ 8000) (hq : isQ x t a bad = false) (h : SrAt w rb base t part a lv l bad) :
    Calls Tryz.prog 123 #[.pointer (some ⟨rb, 0, none⟩), .string (ba x)] w fun e w' => e = .returned (.bool false) ∧ SrAt w' rb base t part a lv l bad ∧ Apart w w' [rb] := by
  have := t_is x hx ht h
  unfold isA at this
  rw [hq] at this
  exact this
theorem t_isT (x : List UInt8) {t : ByteArray} {a rb base : Nat} {lv : Value} {part bad : Bool} {l : List Nd} {w : World} (hx : x.length ≤ 8000) (ht : t.size ≤ 8000) (hq : isQ x t a bad = true) (h : SrAt w rb base t part a lv l bad) :
    Calls Tryz.prog 123 #[.pointer (some ⟨rb, 0, none⟩), .string (ba x)] w fun e w' => e = .returned (.bool true) ∧ SrAt w' rb base t part (isA x t a bad) lv l bad ∧ Apart w w' [rb] := by
  have := t_is x hx ht h
  rw [hq] at this
  exact this
theorem skept1 {w w' : World} {base rb : Nat} (h : Apart w w' [rb]) (hb : base ≤ w.heap.size) : Skept w w' base rb := h.skept hb (fun b hb => by simp at hb; exact .inl hb)
theorem sr_one_var (part : Bool) (t : ByteArray) (rb base a deep : Nat) (lv : Value) (l : List Nd) (w : World) (ht : t.size ≤ 8000) (hd : deep ≤ 11) (hl : l.length ≤ 40) (X : ByteArray) (hX : ba ((t.toList.drop a).takeWhile inW) = X) (hn1 : (X.toList == [101, 110, 100]) = false) (hn2 : (X.toList == [114, 101, 99]) = false)
    (h1 : part = false → isQ [62] t (wdA t a) false = false) (h2 : part = true → isQ [33, 123] t (wdA t a) false = false) (h3 : part = true → isQ [63, 123] t (wdA t a) false = false) (hs : SrAt w rb base t part a lv l false) :
    Calls Tryz.prog 83 #[.pointer (some ⟨rb, 0, none⟩), .int .i64 (deep : Int)] w fun e w' => e = .returned (.tuple #[]) ∧ ∃ lv', SrAt w' rb base t part (wdA t a) lv' (l ++ [⟨1, X, noT, 0, 0⟩]) false ∧ Skept w w' base rb := by
  have c4 := hs.box.cell 4 _ rfl
  have c2 := hs.box.cell 2 _ rfl
  have HW := t_word ht hs
  rw [hX] at HW
  have HWD := hide HW
  obtain ⟨p, c, rfl⟩ := owns_shape hs.row
  obtain ⟨i0, hi, hz0, hz1, hz2⟩ := info_parts Tryz.infoNd
  have HI := hide (And.intro hi (And.intro hz0 (And.intro hz1 hz2)))
  have HSZ := hide hs.sz
  have HT := hide ht
  cases part
  · have HQ := hide (h1 rfl)
    clear hs HW hi hz0 hz1 hz2 hX h1 h2 h3 ht
    go_enter Tryz.func83, Tryz.ntmps83
    go_wp2_with (first
      | (go_at_call 121; refine HWD.out.mono ?_; rintro e w1 ⟨rfl, hs1, ha1⟩; have HS1 := hide hs1; have HA1 := hide ha1; have d3 := hs1.box.cell 3 _ rfl; have dz := hs1.box.fz; clear hs1 ha1)
      | (go_at_call 123; refine (t_isF [62] (by simp) HT.out HQ.out HS1.out).mono ?_; rintro e w2 ⟨rfl, hs2, ha2⟩; have HS2 := hide hs2; have HA2 := hide ha2; have f3 := hs2.box.cell 3 _ rfl; have f2 := hs2.box.cell 2 _ rfl; have fz := hs2.box.fz; clear hs2 ha2)
      | (at_builtin; refine wpList_append_own_at _ rfl (.tmp 31) (.tmp 34) 23 rfl base 45 i0 (.agg #[.int .i64 0, .string ByteArray.empty, .string ByteArray.empty, .int .i64 0, .int .i64 0]) 5 56 Tryz.underlying23 HI.out.1 HI.out.2.1 HI.out.2.2.1 HI.out.2.2.2 rfl (by decide) (.slice p l.length c) l.length (l.flatMap Nd.cells) rfl (owns_below HS2.out.row (malloc1 _ _)) ⟨w2.heap.size, 0, none⟩ 1 1 (Nd.cells ⟨1, X, noT, 0, 0⟩) rfl rfl (node_new _ ⟨1, X, noT, 0, 0⟩) (Nd.cells_one _) (by unfold maxLen; omega) (by omega) (by have := HS2.out.sz; simp; omega) ?_; intro v7 w7 hown7 hgr7 _ hat7; have HP := hide (HS2.out.push ⟨1, X, noT, 0, 0⟩ _ hown7 hgr7 hat7); have e2 := HP.out.2.2.cell 2 _ rfl; have ez := HP.out.2.2.fz; obtain ⟨p7, c7, rfl⟩ := owns_shape hown7; clear hown7 hgr7 hat7))
    go_end0
    exact ⟨rfl, _, HP.out.1, ((skept1 HA1.out HSZ.out).trans (skept1 HA2.out HS1.out.sz)).trans HP.out.2.1⟩
  · have HQ := hide (h2 rfl)
    have HQ' := hide (h3 rfl)
    clear hs HW hi hz0 hz1 hz2 hX h1 h2 h3 ht
    go_enter Tryz.func83, Tryz.ntmps83
    go_wp2_with (first
      | (go_at_call 121; refine HWD.out.mono ?_; rintro e w1 ⟨rfl, hs1, ha1⟩; have HS1 := hide hs1; have HA1 := hide ha1; have d3 := hs1.box.cell 3 _ rfl; have dz := hs1.box.fz; clear hs1 ha1)
      | (go_at_call 123; (fail_if_success (have := HS2)); refine (t_isF [33, 123] (by simp) HT.out HQ.out HS1.out).mono ?_; rintro e w2 ⟨rfl, hs2, ha2⟩; have HS2 := hide hs2; have HA2 := hide ha2; have f3 := hs2.box.cell 3 _ rfl; have f2 := hs2.box.cell 2 _ rfl; have fz := hs2.box.fz; clear hs2 ha2 d3 dz)
      | (go_at_call 123; have HM2 := HS2; refine (t_isF [63, 123] (by simp) HT.out HQ'.out HS2.out).mono ?_; rintro e w3 ⟨rfl, hs3, ha3⟩; have HS3 := hide hs3; have HA3 := hide ha3; clear f3 f2 fz; have f3 := hs3.box.cell 3 _ rfl; have f2 := hs3.box.cell 2 _ rfl; have fz := hs3.box.fz; clear hs3 ha3)
      | (at_builtin; refine wpList_append_own_at _ rfl (.tmp 31) (.tmp 34) 23 rfl base 45 i0 (.agg #[.int .i64 0, .string ByteArray.empty, .string ByteArray.empty, .int .i64 0, .int .i64 0]) 5 56 Tryz.underlying23 HI.out.1 HI.out.2.1 HI.out.2.2.1 HI.out.2.2.2 rfl (by decide) (.slice p l.length c) l.length (l.flatMap Nd.cells) rfl (owns_below HS3.out.row (malloc1 _ _)) ⟨w3.heap.size, 0, none⟩ 1 1 (Nd.cells ⟨1, X, noT, 0, 0⟩) rfl rfl (node_new _ ⟨1, X, noT, 0, 0⟩) (Nd.cells_one _) (by unfold maxLen; omega) (by omega) (by have := HS3.out.sz; simp; omega) ?_; intro v7 w7 hown7 hgr7 _ hat7; have HP := hide (HS3.out.push ⟨1, X, noT, 0, 0⟩ _ hown7 hgr7 hat7); have e2 := HP.out.2.2.cell 2 _ rfl; have ez := HP.out.2.2.fz; obtain ⟨p7, c7, rfl⟩ := owns_shape hown7; clear hown7 hgr7 hat7))
    go_end0
    exact ⟨rfl, _, HP.out.1, (((skept1 HA1.out HSZ.out).trans (skept1 HA2.out HS1.out.sz)).trans (skept1 HA3.out HS2.out.sz)).trans HP.out.2.1⟩
end Go.Proofs.YtmjlblbhakppfaaGreatDoor
namespace Go.Proofs.YtmjlblbhakppfaaGreatDoor
open Go.RowKit
set_option linter.unusedSimpArgs false
set_option linter.unusedVariables false

def CasesC (part : Bool) (t : ByteArray) (f : Nat) : Prop := ∀ (rb base a deep : Nat) (lv : Value) (l : List Nd) (bad : Bool) (w : World) (n : Nd), f + deep = 11 → l.length ≤ 40 → SrAt w rb base t part a lv l bad →
  Calls Tryz.prog 124 #[.pointer (some ⟨rb, 0, none⟩), .agg #[.int .i64 n.op, .string n.name, .string n.peer, .int .i64 n.many, .int .i64 n.sort], .int .i64 (deep : Int)] w fun e w' => e = .returned (.tuple #[]) ∧ SrRes w w' rb base t part (casesS (oneS part f) n (stS t a l bad))
theorem noded (w W : World) (o m s : Int) (x y : ByteArray) (h : W = w.alloc (.cells #[.int .i64 o, .string x, .string y, .int .i64 m, .int .i64 s] 45)) : Apart w W [] ∧ BoxL W w.heap.size [.int .i64 o, .string x, .string y, .int .i64 m, .int .i64 s] := by
  subst h
  exact ⟨below_apart (malloc1 w _), BoxL.new w [.int .i64 o, .string x, .string y, .int .i64 m, .int .i64 s] 45⟩
set_option maxRecDepth 100000 in
set_option maxHeartbeats 2000000 in
theorem sr_one_msg (t : ByteArray) (f rb base a deep : Nat) (lv : Value) (l : List Nd) (w : World) (ht : t.size ≤ 8000) (hcs : CasesC false t f) (hd : f + 1 + deep = 12) (hl : l.length ≤ 40) (X : ByteArray) (hX : ba ((t.toList.drop a).takeWhile inW) = X) (hn1 : (X.toList == [101, 110, 100]) = false) (hn2 : (X.toList == [114, 101, 99]) = false) (hq : isQ [62] t (wdA t a) false = true) (hs : SrAt w rb base t false a lv l false) :
    Calls Tryz.prog 83 #[.pointer (some ⟨rb, 0, none⟩), .int .i64 (deep : Int)] w fun e w' => e = .returned (.tuple #[]) ∧ SrRes w w' rb base t false (casesS (oneS false f) ⟨3, X, ba (wdS (stS t (isA [62] t (wdA t a) false) l false)), 0, 0⟩ (mustS [123] (skW (stS t (isA [62] t (wdA t a) false) l false)))) := by
  simp only [sk_st, must_st, wdS_st, push_st]
  have c4 := hs.box.cell 4 _ rfl
  have c2 := hs.box.cell 2 _ rfl
  have HW := t_word ht hs
  rw [hX] at HW
  have HWD := hide HW
  obtain ⟨p, c, rfl⟩ := owns_shape hs.row
  have HSZ := hide hs.sz
  have HT := hide ht
  have hd2 : deep ≤ 11 := by omega
  obtain ⟨A2, hA2⟩ : ∃ x, isA [62] t (wdA t a) false = x := ⟨_, rfl⟩
  rw [hA2]
  obtain ⟨Y, hY⟩ : ∃ x, ba ((t.toList.drop A2).takeWhile inW) = x := ⟨_, rfl⟩
  rw [hY]
  obtain ⟨fin, hfin⟩ : ∃ x, casesS (oneS false f) ⟨3, X, Y, 0, 0⟩ (stS t (isA [123] t (wdA t A2) false) l !isQ [123] t (wdA t A2) false) = x := ⟨_, rfl⟩
  rw [hfin]
  have HQ : Hid (∀ w1, SrAt w1 rb base t false (wdA t a) (.slice p l.length c) l false → Calls Tryz.prog 123 #[.pointer (some ⟨rb, 0, none⟩), .string ⟨#[62]⟩] w1 fun e w' => e = .returned (.bool true) ∧ SrAt w' rb base t false A2 (.slice p l.length c) l false ∧ Apart w1 w' [rb]) := hide (fun w1 h1 => by
    have := t_isT [62] (by simp) ht hq h1
    rw [hA2] at this
    exact this)
  have HW2 : Hid (∀ w1, SrAt w1 rb base t false A2 (.slice p l.length c) l false → Calls Tryz.prog 121 #[.pointer (some ⟨rb, 0, none⟩)] w1 fun e w' => e = .returned (.string Y) ∧ SrAt w' rb base t false (wdA t A2) (.slice p l.length c) l false ∧ Apart w1 w' [rb]) := hide (fun w1 h1 => by
    have := t_word ht h1
    rw [hY] at this
    exact this)
  have HC : Hid (∀ w1, SrAt w1 rb base t false (isA [123] t (wdA t A2) false) (.slice p l.length c) l (!isQ [123] t (wdA t A2) false) → Calls Tryz.prog 124 #[.pointer (some ⟨rb, 0, none⟩), .agg #[.int .i64 3, .string X, .string Y, .int .i64 0, .int .i64 0], .int .i64 (deep : Int)] w1 fun e w' => e = .returned (.tuple #[]) ∧ SrRes w1 w' rb base t false fin) := hide (fun w1 h1 => by
    have := hcs rb base _ deep _ _ _ w1 ⟨3, X, Y, 0, 0⟩ (by omega) hl h1
    rw [hfin] at this
    exact this)
  have HS0 := hide hs
  clear hs HW hX ht hcs hd hA2 hY hfin hq
  go_enter Tryz.func83, Tryz.ntmps83
  go_wp2_with (first
    | (go_at_call 121; (fail_if_success (have := HS1)); refine HWD.out.mono ?_; rintro e w1 ⟨rfl, hs1, ha1⟩; have HS1 := hide hs1; have HA1 := hide ha1; have d3 := hs1.box.cell 3 _ rfl; have dz := hs1.box.fz; clear hs1 ha1)
    | (go_at_call 123; refine (HQ.out _ HS1.out).mono ?_; rintro e w2 ⟨rfl, hs2, ha2⟩; have HS2 := hide hs2; have HA2 := hide ha2; clear hs2 ha2 d3 dz)
    | (go_at_call 121; have HM2 := HS2; refine (HW2.out _ HS2.out).mono ?_; rintro e w3 ⟨rfl, hs3, ha3⟩; have HS3 := hide hs3; have HA3 := hide ha3; have l3 := hs3.box.lt; clear hs3 ha3)
    | (go_at_call 122; go_must (obtain ⟨W4, hW4⟩ : ∃ W4, W4 = w3.alloc (.cells #[.int .i64 3, .string X, .string Y, .int .i64 0, .int .i64 0] 45) := ⟨_, rfl⟩; rw [← hW4]; have HW4 := hide hW4; clear hW4; have HN4 := hide (noded w3 W4 3 0 0 X Y HW4.out); refine (t_must [123] (by simp) HT.out (HS3.out.keep HN4.out.1)).mono ?_; rintro e w5 ⟨rfl, hs5, ha5⟩; have HS5 := hide hs5; have HA5 := hide ha5; have HN5 := hide (HN4.out.2.keep ha5 (by have := HS3.out.box.lt; simp; omega)); have n0 := HN5.out.cell 0 _ rfl; have n1 := HN5.out.cell 1 _ rfl; have n2 := HN5.out.cell 2 _ rfl; have n3 := HN5.out.cell 3 _ rfl; have n4 := HN5.out.cell 4 _ rfl; clear hs5 ha5))
    | (go_at_call 124; refine (HC.out _ HS5.out).mono ?_; rintro e w6 ⟨rfl, hr6⟩; have HR6 := hide hr6; clear hr6))
  go_end0
  obtain ⟨a9, lv9, l9, b9, h1, h2, h3⟩ := HR6.out
  have k1 := ((skept1 HA1.out HSZ.out).trans (skept1 HA2.out HS1.out.sz)).trans (skept1 HA3.out HS2.out.sz)
  have k2 := (HN4.out.1.skept (rb := rb) HS3.out.sz (by simp)).trans (skept1 HA5.out (HS3.out.keep HN4.out.1).sz)
  exact ⟨rfl, a9, lv9, l9, b9, h1, h2, (k1.trans k2).trans h3⟩
set_option maxRecDepth 100000 in
set_option maxHeartbeats 2000000 in
theorem sr_one_send (t : ByteArray) (f rb base a deep : Nat) (lv : Value) (l : List Nd) (w : World) (ht : t.size ≤ 8000) (hcs : CasesC true t f) (hd : f + 1 + deep = 12) (hl : l.length ≤ 40) (X : ByteArray) (hX : ba ((t.toList.drop a).takeWhile inW) = X) (hn1 : (X.toList == [101, 110, 100]) = false) (hn2 : (X.toList == [114, 101, 99]) = false) (hq : isQ [33, 123] t (wdA t a) false = true) (hs : SrAt w rb base t true a lv l false) :
    Calls Tryz.prog 83 #[.pointer (some ⟨rb, 0, none⟩), .int .i64 (deep : Int)] w fun e w' => e = .returned (.tuple #[]) ∧ SrRes w w' rb base t true (casesS (oneS true f) ⟨5, noT, X, 0, 0⟩ (stS t (isA [33, 123] t (wdA t a) false) l false)) := by
  have c4 := hs.box.cell 4 _ rfl
  have c2 := hs.box.cell 2 _ rfl
  have HW := t_word ht hs
  rw [hX] at HW
  have HWD := hide HW
  obtain ⟨p, c, rfl⟩ := owns_shape hs.row
  have HSZ := hide hs.sz
  have HT := hide ht
  have hd2 : deep ≤ 11 := by omega
  obtain ⟨A2, hA2⟩ : ∃ x, isA [33, 123] t (wdA t a) false = x := ⟨_, rfl⟩
  rw [hA2]
  obtain ⟨fin, hfin⟩ : ∃ x, casesS (oneS true f) ⟨5, noT, X, 0, 0⟩ (stS t A2 l false) = x := ⟨_, rfl⟩
  rw [hfin]
  have HQ : Hid (∀ w1, SrAt w1 rb base t true (wdA t a) (.slice p l.length c) l false → Calls Tryz.prog 123 #[.pointer (some ⟨rb, 0, none⟩), .string ⟨#[33, 123]⟩] w1 fun e w' => e = .returned (.bool true) ∧ SrAt w' rb base t true A2 (.slice p l.length c) l false ∧ Apart w1 w' [rb]) := hide (fun w1 h1 => by
    have := t_isT [33, 123] (by simp) ht hq h1
    rw [hA2] at this
    exact this)
  have HC : Hid (∀ w1, SrAt w1 rb base t true A2 (.slice p l.length c) l false → Calls Tryz.prog 124 #[.pointer (some ⟨rb, 0, none⟩), .agg #[.int .i64 5, .string ⟨#[]⟩, .string X, .int .i64 0, .int .i64 0], .int .i64 (deep : Int)] w1 fun e w' => e = .returned (.tuple #[]) ∧ SrRes w1 w' rb base t true fin) := hide (fun w1 h1 => by
    have := hcs rb base _ deep _ _ _ w1 ⟨5, noT, X, 0, 0⟩ (by omega) hl h1
    rw [hfin] at this
    exact this)
  clear hs HW hX ht hcs hd hA2 hfin hq
  go_enter Tryz.func83, Tryz.ntmps83
  go_wp2_with (first
    | (go_at_call 121; (fail_if_success (have := HS1)); refine HWD.out.mono ?_; rintro e w1 ⟨rfl, hs1, ha1⟩; have HS1 := hide hs1; have HA1 := hide ha1; have d3 := hs1.box.cell 3 _ rfl; have dz := hs1.box.fz; clear hs1 ha1)
    | (go_at_call 123; refine (HQ.out _ HS1.out).mono ?_; rintro e w2 ⟨rfl, hs2, ha2⟩; have HS2 := hide hs2; have HA2 := hide ha2; clear hs2 ha2 d3 dz)
    | (go_at_call 124; refine (HC.out _ HS2.out).mono ?_; rintro e w6 ⟨rfl, hr6⟩; have HR6 := hide hr6; clear hr6))
  go_end0
  obtain ⟨a9, lv9, l9, b9, h1, h2, h3⟩ := HR6.out
  exact ⟨rfl, a9, lv9, l9, b9, h1, h2, ((skept1 HA1.out HSZ.out).trans (skept1 HA2.out HS1.out.sz)).trans h3⟩
set_option maxRecDepth 100000 in
set_option maxHeartbeats 2000000 in
theorem sr_one_recv (t : ByteArray) (f rb base a deep : Nat) (lv : Value) (l : List Nd) (w : World) (ht : t.size ≤ 8000) (hcs : CasesC true t f) (hd : f + 1 + deep = 12) (hl : l.length ≤ 40) (X : ByteArray) (hX : ba ((t.toList.drop a).takeWhile inW) = X) (hn1 : (X.toList == [101, 110, 100]) = false) (hn2 : (X.toList == [114, 101, 99]) = false) (hf : isQ [33, 123] t (wdA t a) false = false) (hq : isQ [63, 123] t (wdA t a) false = true) (hs : SrAt w rb base t true a lv l false) :
    Calls Tryz.prog 83 #[.pointer (some ⟨rb, 0, none⟩), .int .i64 (deep : Int)] w fun e w' => e = .returned (.tuple #[]) ∧ SrRes w w' rb base t true (casesS (oneS true f) ⟨6, noT, X, 0, 0⟩ (stS t (isA [63, 123] t (wdA t a) false) l false)) := by
  have c4 := hs.box.cell 4 _ rfl
  have c2 := hs.box.cell 2 _ rfl
  have HW := t_word ht hs
  rw [hX] at HW
  have HWD := hide HW
  obtain ⟨p, c, rfl⟩ := owns_shape hs.row
  have HSZ := hide hs.sz
  have HT := hide ht
  have hd2 : deep ≤ 11 := by omega
  have HF := hide hf
  obtain ⟨A2, hA2⟩ : ∃ x, isA [63, 123] t (wdA t a) false = x := ⟨_, rfl⟩
  rw [hA2]
  obtain ⟨fin, hfin⟩ : ∃ x, casesS (oneS true f) ⟨6, noT, X, 0, 0⟩ (stS t A2 l false) = x := ⟨_, rfl⟩
  rw [hfin]
  have HQ : Hid (∀ w1, SrAt w1 rb base t true (wdA t a) (.slice p l.length c) l false → Calls Tryz.prog 123 #[.pointer (some ⟨rb, 0, none⟩), .string ⟨#[63, 123]⟩] w1 fun e w' => e = .returned (.bool true) ∧ SrAt w' rb base t true A2 (.slice p l.length c) l false ∧ Apart w1 w' [rb]) := hide (fun w1 h1 => by
    have := t_isT [63, 123] (by simp) ht hq h1
    rw [hA2] at this
    exact this)
  have HC : Hid (∀ w1, SrAt w1 rb base t true A2 (.slice p l.length c) l false → Calls Tryz.prog 124 #[.pointer (some ⟨rb, 0, none⟩), .agg #[.int .i64 6, .string ⟨#[]⟩, .string X, .int .i64 0, .int .i64 0], .int .i64 (deep : Int)] w1 fun e w' => e = .returned (.tuple #[]) ∧ SrRes w1 w' rb base t true fin) := hide (fun w1 h1 => by
    have := hcs rb base _ deep _ _ _ w1 ⟨6, noT, X, 0, 0⟩ (by omega) hl h1
    rw [hfin] at this
    exact this)
  clear hs HW hX ht hcs hd hA2 hfin hq hf
  go_enter Tryz.func83, Tryz.ntmps83
  go_wp2_with (first
    | (go_at_call 121; (fail_if_success (have := HS1)); refine HWD.out.mono ?_; rintro e w1 ⟨rfl, hs1, ha1⟩; have HS1 := hide hs1; have HA1 := hide ha1; have d3 := hs1.box.cell 3 _ rfl; have dz := hs1.box.fz; clear hs1 ha1)
    | (go_at_call 123; (fail_if_success (have := HS8)); refine (t_isF [33, 123] (by simp) HT.out HF.out HS1.out).mono ?_; rintro e w8 ⟨rfl, hs8, ha8⟩; have HS8 := hide hs8; have HA8 := hide ha8; clear d3 dz; have d3 := hs8.box.cell 3 _ rfl; have dz := hs8.box.fz; clear hs8 ha8)
    | (go_at_call 123; have HM8 := HS8; refine (HQ.out _ HS8.out).mono ?_; rintro e w2 ⟨rfl, hs2, ha2⟩; have HS2 := hide hs2; have HA2 := hide ha2; clear hs2 ha2 d3 dz)
    | (go_at_call 124; refine (HC.out _ HS2.out).mono ?_; rintro e w6 ⟨rfl, hr6⟩; have HR6 := hide hr6; clear hr6))
  go_end0
  obtain ⟨a9, lv9, l9, b9, h1, h2, h3⟩ := HR6.out
  exact ⟨rfl, a9, lv9, l9, b9, h1, h2, (((skept1 HA1.out HSZ.out).trans (skept1 HA8.out HS1.out.sz)).trans (skept1 HA2.out HS8.out.sz)).trans h3⟩
end Go.Proofs.YtmjlblbhakppfaaGreatDoor
namespace Go.Proofs.YtmjlblbhakppfaaGreatDoor
open Go.RowKit
set_option linter.unusedSimpArgs false
set_option linter.unusedVariables false

theorem SrAt.drew {W : World} {rb base : Nat} {t : ByteArray} {part : Bool} {a : Nat} {lv : Value} {l : List Nd} {bad : Bool} (h : SrAt W rb base t part a lv l bad) : SrAt W.drew rb base t part a lv l bad := h.keep (Apart.refl _).drew
set_option maxRecDepth 100000 in
set_option maxHeartbeats 2000000 in
theorem sr_one_rec (part : Bool) (t : ByteArray) (f rb base a deep : Nat) (lv : Value) (l : List Nd) (w : World) (ht : t.size ≤ 8000) (hone : OneC part t f) (hd : f + 1 + deep = 12) (hl : l.length ≤ 40) (X : ByteArray) (hX : ba ((t.toList.drop a).takeWhile inW) = X) (hn1 : (X.toList == [101, 110, 100]) = false) (hn2 : (X.toList == [114, 101, 99]) = true) (hs : SrAt w rb base t part a lv l false) :
    Calls Tryz.prog 83 #[.pointer (some ⟨rb, 0, none⟩), .int .i64 (deep : Int)] w fun e w' => e = .returned (.tuple #[]) ∧ SrRes w w' rb base t part (oneS part f (mustS [46] (pushS ⟨2, ba (wdS (mustS [32] (skW (stS t a l false)))), noT, 0, 0⟩ (skW (mustS [32] (skW (stS t a l false))))))) := by
  simp only [sk_st, must_st, wdS_st, push_st]
  have c4 := hs.box.cell 4 _ rfl
  have c2 := hs.box.cell 2 _ rfl
  have HW := t_word ht hs
  rw [hX] at HW
  have HWD := hide HW
  obtain ⟨p, c, rfl⟩ := owns_shape hs.row
  obtain ⟨i0, hi, hz0, hz1, hz2⟩ := info_parts Tryz.infoNd
  have HI := hide (And.intro hi (And.intro hz0 (And.intro hz1 hz2)))
  have HSZ := hide hs.sz
  have HT := hide ht
  have HONE := hide hone
  have hd2 : deep ≤ 11 := by omega
  have HD := hide hd
  obtain ⟨A2, hA2⟩ : ∃ x, isA [32] t (wdA t a) false = x := ⟨_, rfl⟩
  obtain ⟨B2, hB2⟩ : ∃ x, isQ [32] t (wdA t a) false = x := ⟨_, rfl⟩
  rw [hA2, hB2]
  obtain ⟨Y, hY⟩ : ∃ x, ba ((t.toList.drop A2).takeWhile inW) = x := ⟨_, rfl⟩
  rw [hY]
  obtain ⟨fin, hfin⟩ : ∃ x, oneS part f (stS t (isA [46] t (wdA t A2) !B2) (l ++ [⟨2, Y, noT, 0, 0⟩]) !isQ [46] t (wdA t A2) !B2) = x := ⟨_, rfl⟩
  rw [hfin]
  have HM1 : Hid (∀ w1, SrAt w1 rb base t part (wdA t a) (.slice p l.length c) l false → Calls Tryz.prog 122 #[.pointer (some ⟨rb, 0, none⟩), .string ⟨#[32]⟩] w1 fun e w' => e = .returned (.tuple #[]) ∧ SrAt w' rb base t part A2 (.slice p l.length c) l (!B2) ∧ Apart w1 w' [rb]) := hide (fun w1 h1 => by
    have := t_must [32] (by simp) ht h1
    rw [hA2, hB2] at this
    exact this)
  have HW2 : Hid (∀ w1, SrAt w1 rb base t part A2 (.slice p l.length c) l (!B2) → Calls Tryz.prog 121 #[.pointer (some ⟨rb, 0, none⟩)] w1 fun e w' => e = .returned (.string Y) ∧ SrAt w' rb base t part (wdA t A2) (.slice p l.length c) l (!B2) ∧ Apart w1 w' [rb]) := hide (fun w1 h1 => by
    have := t_word ht h1
    rw [hY] at this
    exact this)
  have HO : Hid (∀ w1 lv1, SrAt w1 rb base t part (isA [46] t (wdA t A2) !B2) lv1 (l ++ [⟨2, Y, noT, 0, 0⟩]) (!isQ [46] t (wdA t A2) !B2) → Calls Tryz.prog 83 #[.pointer (some ⟨rb, 0, none⟩), .int .i64 (deep + 1 : Int)] w1 fun e w' => e = .returned (.tuple #[]) ∧ SrRes w1 w' rb base t part fin) := hide (fun w1 lv1 h1 => by
    have := hone rb base _ (deep + 1) lv1 _ _ w1 (by omega) (by simp; omega) h1
    rw [hfin] at this
    exact this)
  clear hs HW hi hz0 hz1 hz2 hX ht hone hd hA2 hB2 hY hfin
  go_enter Tryz.func83, Tryz.ntmps83
  go_wp2_with (first
    | (go_at_call 121; (fail_if_success (have := HS1)); refine HWD.out.mono ?_; rintro e w1 ⟨rfl, hs1, ha1⟩; have HS1 := hide hs1; have HA1 := hide ha1; clear hs1 ha1)
    | (go_at_call 122; (fail_if_success (have := HS2)); refine (HM1.out _ HS1.out).mono ?_; rintro e w2 ⟨rfl, hs2, ha2⟩; have HS2 := hide hs2; have HA2 := hide ha2; have d2 := hs2.box.cell 2 _ rfl; have dz := hs2.box.fz; clear hs2 ha2))
  have HK2 := hide ((skept1 HA1.out HSZ.out).trans (skept1 HA2.out HS1.out.sz))
  go_region_law (first
    | (go_simp; go_at_call 121; refine (HW2.out _ (by first | exact HS2.out.drew | exact HS2.out)).mono ?_; rintro e w3 ⟨rfl, hs3, ha3⟩; have HS3 := hide hs3; have HA3 := hide (show Apart w2 w3 [rb] from ⟨ha3.os, ha3.tape, ha3.output, ha3.size, ha3.block⟩); have f2 := hs3.box.cell 2 _ rfl; have fz := hs3.box.fz; have l3 := hs3.box.lt; clear hs3 ha3)
    | (refine stepM_at rfl (.tmp 60) (.tmp 64) 23 rfl base 45 i0 (.agg #[.int .i64 0, .string ByteArray.empty, .string ByteArray.empty, .int .i64 0, .int .i64 0]) 5 56 Tryz.underlying23 HI.out.1 HI.out.2.1 HI.out.2.2.1 HI.out.2.2.2 rfl (by decide) (.slice p l.length c) l.length (l.flatMap Nd.cells) (by simp [Act.eval]) (owns_below HS3.out.row (malloc1 _ _)) ⟨w3.heap.size, 0, none⟩ 1 1 (Nd.cells ⟨2, Y, noT, 0, 0⟩) (by simp [Act.eval]) rfl (node_new _ ⟨2, Y, noT, 0, 0⟩) (Nd.cells_one _) (by unfold maxLen; omega) (by omega) (by have := HS3.out.sz; simp; omega) ?_; intro v7 w7 hown7 hgr7 hat7; have HP := hide (HS3.out.push ⟨2, Y, noT, 0, 0⟩ _ hown7 hgr7 hat7); have e2 := HP.out.2.2.cell 2 _ rfl; have ez := HP.out.2.2.fz; obtain ⟨p7, c7, rfl⟩ := owns_shape hown7; clear hown7 hgr7 hat7)
    | fail)
  all_goals
    have HK3 := hide ((HK2.out.trans (skept1 HA3.out HS2.out.sz)).trans HP.out.2.1)
    go_wp2_with (first
      | (go_at_call 122; have HM9 := HP; refine (t_must [46] (by simp) HT.out HP.out.1).mono ?_; rintro e w8 ⟨rfl, hs8, ha8⟩; have HS8 := hide hs8; have HA8 := hide ha8; clear hs8 ha8)
      | (go_at_call 83; refine (HO.out _ _ HS8.out).mono ?_; rintro e w9 ⟨rfl, hr9⟩; have HR9 := hide hr9; clear hr9))
    go_end0
    obtain ⟨a9, lv9, l9, b9, h1, h2, h3⟩ := HR9.out
    exact ⟨rfl, a9, lv9, l9, b9, h1, h2, (HK3.out.trans (skept1 HA8.out HP.out.1.sz)).trans h3⟩
end Go.Proofs.YtmjlblbhakppfaaGreatDoor
namespace Go.Proofs.YtmjlblbhakppfaaGreatDoor
open Go.RowKit
set_option linter.unusedSimpArgs false
set_option linter.unusedVariables false

def soUp (V : ByteArray) : Nat → Int
  | 0 => 0
  | i + 1 => if (sortT (i : Int)).toList == V.toList then (i : Int) else soUp V i
theorem soUp_is (x : List UInt8) : soUp (ba x) 3 = sortS x := by
  have e1 : (sortT ((2 : Nat) : Int)).toList = [116, 101, 120, 116] := by unfold sortT; simp [ba_list]
  have e2 : (sortT ((1 : Nat) : Int)).toList = [105, 110, 116] := by unfold sortT; simp [ba_list]
  simp only [soUp, ba_list, e1, e2]
  unfold sortS
  by_cases h1 : x = [105, 110, 116]
  · subst h1; decide
  · by_cases h2 : x = [116, 101, 120, 116]
    · subst h2; decide
    · have n1 : ([105, 110, 116] == x) = false := by rw [beq_eq_false_iff_ne]; exact fun e => h1 e.symm
      have n2 : ([116, 101, 120, 116] == x) = false := by rw [beq_eq_false_iff_ne]; exact fun e => h2 e.symm
      rw [n1, n2, if_neg h1, if_neg h2]
      simp
structure CsB (part : Bool) (f : Nat) (t : ByteArray) (w wr : World) (rb base K m a : Nat) (lv : Value) (l : List Nd) (bad : Bool) (fin : Nat × Ss) : Prop where
  le : m ≤ 5
  at_ : SrAt wr rb base t part a lv l bad
  ok : SsOk false (stS t a l bad)
  fine : SsFine (stS t a l bad)
  kl : K < l.length
  is_ : loopS (oneS part f) (5 - m) m (stS t a l bad) = fin
  kept : Skept w wr base rb
theorem loop_bad (go : Ss → Ss) (j m : Nat) (s : Ss) (h : s.bad = true) : loopS go j m s = (m, s) := by
  cases j with
  | zero => rfl
  | succ j => rw [loopS, if_pos h]
theorem CsB.out {part : Bool} {f : Nat} {t : ByteArray} {w wr : World} {rb base K m a : Nat} {lv : Value} {l : List Nd} {bad : Bool} {fin : Nat × Ss} (h : CsB part f t w wr rb base K m a lv l bad fin) (ho : bad = true ∨ m = 5) : fin = (m, stS t a l bad) := by
  rw [← h.is_]
  rcases ho with ho | ho
  · exact loop_bad _ _ _ _ ho
  · subst ho
    rfl
theorem case_is (go : Ss → Ss) (t : ByteArray) (a : Nat) (l : List Nd) : caseS go (stS t a l false) = go (stS t (isA [41, 46] t (wdA t (isA [40] t (wdA t a) false)) !isQ [40] t (wdA t a) false) (l ++ [⟨4, ba ((t.toList.drop a).takeWhile inW), noT, 0, soUp (ba ((t.toList.drop (isA [40] t (wdA t a) false)).takeWhile inW)) 3⟩]) !isQ [41, 46] t (wdA t (isA [40] t (wdA t a) false)) !isQ [40] t (wdA t a) false) := by
  unfold caseS
  simp only [sk_st, must_st, wdS_st, push_st, soUp_is]
theorem CsB.step {part : Bool} {f : Nat} {t : ByteArray} {w wr W W' : World} {rb base K m a a' : Nat} {lv lv' : Value} {l l' : List Nd} {bad' : Bool} {fin : Nat × Ss} (h : CsB part f t w wr rb base K m a lv l false fin) (hm : m < 5) (hc : caseS (oneS part f) (stS t a l false) = stS t a' l' bad') :
    (isQ [44] t a' bad' = true → SrAt W rb base t part (isA [44] t a' bad') lv' l' bad' → Skept wr W base rb → CsB part f t w W rb base K (m + 1) (isA [44] t a' bad') lv' l' bad' fin) ∧ (isQ [44] t a' bad' = false → fin = (m + 1, stS t a' l' bad')) ∧ K < l'.length := by
  obtain ⟨c1, c2⟩ := case_ok (fun s hs => one_ok (k := false) part f s hs) h.ok (h.fine rfl)
  have c3 := case_mono (one_mono part f) (stS t a l false)
  rw [hc] at c1 c2 c3
  have hk : K < l'.length := Nat.lt_of_lt_of_le h.kl c3
  have hf := h.is_
  obtain ⟨j, hj⟩ : ∃ j, 5 - m = j + 1 := ⟨4 - m, by omega⟩
  rw [hj, loopS, if_neg (show ¬ (stS t a l false).bad = true by simp [stS]), hc, is_st] at hf
  refine ⟨fun hq hs hk' => ?_, fun hq => ?_, hk⟩
  · rw [hq, if_pos rfl] at hf
    refine ⟨by omega, hs, ⟨?_, c1.f, c1.n⟩, c2, hk, ?_, h.kept.trans hk'⟩
    · show (t.toList.drop _).length ≤ 8000
      have h1 : (t.toList.drop a').length ≤ 8000 := c1.r
      rw [List.length_drop] at h1 ⊢
      unfold isA
      split <;> omega
    · rw [← hf, show 5 - (m + 1) = j by omega]
  · rw [hq, if_neg (by simp)] at hf
    exact hf.symm
theorem node_newq (w : World) (ob : Obj) (n : Nd) : ∀ j u, n.cells[j]? = some u → ((w.alloc ob).drew.alloc (.cells #[.int .i64 n.op, .string n.name, .string n.peer, .int .i64 n.many, .int .i64 n.sort] 45)).cell? (Addr.add ⟨w.heap.size + 1, 0, none⟩ j) = some u := fun j u hj => by
  have h := node_new (w.alloc ob).drew n j u hj
  have e : (w.alloc ob).drew.heap.size = w.heap.size + 1 := by simp
  rw [e] at h
  exact h
theorem row_frozen {w : World} {base g c : Nat} {l : List Nd} (h : NdOwn w base (.slice (some ⟨g, 0, none⟩) l.length c) l) (o : Nat) : w.frozen? ⟨g, o, none⟩ = false := by
  rcases h.2 with ⟨e, _⟩ | ⟨g', cap, cur, e, hg, hb, _⟩
  · simp at e
  · injection e with e1 e2 e3
    injection e1 with e1
    injection e1 with e1
    subst e1
    simp [World.frozen?, hb]
set_option maxRecDepth 100000 in
set_option maxHeartbeats 4000000 in
theorem sr_cases (part : Bool) (t : ByteArray) (f : Nat) (ht : t.size ≤ 8000) (hone : OneC part t f) : CasesC part t f := by
  intro rb base a deep lv l bad w n hd hl hs
  have HT := hide ht
  obtain ⟨p, c, rfl⟩ := owns_shape hs.row
  obtain ⟨i0, hi, hz0, hz1, hz2⟩ := info_parts Tryz.infoNd
  have HI := hide (And.intro hi (And.intro hz0 (And.intro hz1 hz2)))
  obtain ⟨fin, hfin⟩ : ∃ x, loopS (oneS part f) 5 0 (stS t a (l ++ [n]) bad) = x := ⟨_, rfl⟩
  have HRES : Hid (∀ M a8 l8 b8, fin = (M, stS t a8 l8 b8) → casesS (oneS part f) n (stS t a l bad) = stS t (isA [125] t a8 b8) (setMany l8 l.length M) (!isQ [125] t a8 b8)) := hide (fun M a8 l8 b8 h => by
    unfold casesS
    rw [push_st, hfin, h]
    dsimp only
    rw [must_st]
    rfl)
  obtain ⟨res, hres⟩ : ∃ x, casesS (oneS part f) n (stS t a l bad) = x := ⟨_, rfl⟩
  rw [hres] at HRES ⊢
  have HB0 : Hid (∀ W lv', SrAt W rb base t part a lv' (l ++ [n]) bad → Skept w W base rb → CsB part f t w W rb base l.length 0 a lv' (l ++ [n]) bad fin) := hide (fun W lv' h1 h2 => ⟨by omega, h1, ⟨by show (t.toList.drop a).length ≤ 8000; rw [List.length_drop, tl_size]; omega, fun h => (by cases h), by show (l ++ [n]).length ≤ 42; simp; omega⟩, fun _ => by show (l ++ [n]).length ≤ 41; simp; omega, by simp, hfin, h2⟩)
  have HONE : Hid (∀ (w1 : World) (a1 : Nat) (lv1 : Value) (l1 : List Nd) (b1 : Bool), l1.length ≤ 42 → SrAt w1 rb base t part a1 lv1 l1 b1 → Calls Tryz.prog 83 #[.pointer (some ⟨rb, 0, none⟩), .int .i64 (deep + 1 : Int)] w1 fun e w' => e = .returned (.tuple #[]) ∧ SrRes w1 w' rb base t part (oneS part f (stS t a1 l1 b1))) := hide (fun w1 a1 lv1 l1 b1 h1 h2 => hone rb base a1 (deep + 1) lv1 l1 b1 w1 (by omega) h1 h2)
  have c2 := hs.box.cell 2 _ rfl
  have bz := hs.box.fz
  have hlt := hs.box.lt
  have hd2 : deep ≤ 11 := by omega
  have HS0 : Hid (∀ ob : Obj, SrAt (w.alloc ob).drew rb base t part a (.slice p l.length c) l bad) := hide (fun ob => (hs.keep (below_apart (malloc1 w ob))).keep (Apart.refl _).drew)
  have HK0 : Hid (∀ ob : Obj, Skept w (w.alloc ob).drew base rb) := hide (fun ob => (below_apart (malloc1 w ob)).drew.skept hs.sz (by simp))
  have HSZ := hide hs.sz
  obtain ⟨L, hL⟩ : ∃ L, l.length = L := ⟨_, rfl⟩
  have HL := hide hL
  obtain ⟨op, nm, pr, mn, so⟩ := n
  clear hs hi hz0 hz1 hz2 ht hone hd hfin hres hL
  go_enter Tryz.func124, Tryz.ntmps124
  go_wp2_with fail
  go_region_law (first
    | (refine stepM_at rfl (.tmp 20) (.tmp 22) 23 rfl base 45 i0 (.agg #[.int .i64 0, .string ByteArray.empty, .string ByteArray.empty, .int .i64 0, .int .i64 0]) 5 56 Tryz.underlying23 HI.out.1 HI.out.2.1 HI.out.2.2.1 HI.out.2.2.2 rfl (by decide) (.slice p l.length c) l.length (l.flatMap Nd.cells) (by simp [Act.eval]) (owns_below (HS0.out _).row (malloc1 _ _)) ⟨w.heap.size + 1, 0, none⟩ 1 1 (Nd.cells ⟨op, nm, pr, mn, so⟩) (by simp [Act.eval]) rfl (node_newq w _ ⟨op, nm, pr, mn, so⟩) (Nd.cells_one _) (by unfold maxLen; omega) (by omega) (by have := HSZ.out; simp; omega) ?_; intro v7 w7 hown7 hgr7 hat7; have HP := hide ((HS0.out (.cells #[.int .i64 op, .string nm, .string pr, .int .i64 mn, .int .i64 so] 45)).push ⟨op, nm, pr, mn, so⟩ _ hown7 hgr7 hat7); have e2 := HP.out.2.2.cell 2 _ rfl; have ez := HP.out.2.2.fz; obtain ⟨p7, c7, rfl⟩ := owns_shape hown7; clear hown7 hgr7 hat7)
    | fail)
  all_goals
    obtain ⟨W5, hW5⟩ : ∃ W, W = w7.setCell ⟨rb, 2, none⟩ (.slice p7 (l.length + 1) c7) := ⟨_, rfl⟩
    rw [← hW5]
    have HC0 := hide (HB0.out W5 _ (by rw [hW5]; exact HP.out.1) (by rw [hW5]; exact (HK0.out _).trans HP.out.2.1))
    clear hW5 HP e2 ez c2 bz hlt HS0 HK0 HB0
    go_wp2_with fail
    go_loopw [7] (fun mv wr => ∃ (m a' : Nat) (lv' : Value) (l' : List Nd) (bad' : Bool), mv = .int .i64 (m : Int) ∧ CsB part f t w wr rb base l.length m a' lv' l' bad' fin) (fun mv _ => 5 - (intOf mv).toNat)
    case atStart => exact ⟨0, a, _, _, bad, rfl, HC0.out⟩
    case round =>
      clear HC0
      obtain ⟨m, a', lv', l', bad', rfl, hc⟩ := hrel
      have HC := hide hc
      have hm := hc.le
      obtain ⟨g', c', rfl, hgl', -⟩ := hc.at_.row.at_ (by have := hc.kl; omega)
      have k4 := hc.at_.box.cell 4 _ rfl
      have HTL := hide hc.at_
      have HKT := hide hc.kept
      have HLT : Hid (L < l'.length) := hide (by rw [← HL.out]; exact hc.kl)
      clear hc
      by_cases hgo : bad' = true ∨ m = 5
      · have HFIN := hide (HC.out.out hgo)
        have hex : (bad' = true ∧ m ≤ 5) ∨ (bad' = false ∧ m = 5) := by
          rcases hgo with h | h
          · exact .inl ⟨h, hm⟩
          · cases bad'
            · exact .inr ⟨rfl, h⟩
            · exact .inl ⟨rfl, hm⟩
        clear hgo
        rw [HL.out]
        rcases hex with ⟨rfl, -⟩ | ⟨rfl, rfl⟩
        · go_wp2_with (first | (go_at_call 122; go_must (refine (t_must [125] (by simp) HT.out HTL.out).mono ?_; rintro e w10 ⟨rfl, hs10, ha10⟩; have HS10 := hide hs10; have HA10 := hide ha10; have y2 := hs10.box.cell 2 _ rfl; have hl10 := HLT.out; have y3 := owns_cell hs10.row rfl (L * 5 + 3) _ (by rw [← HL.out, cells_get (by rw [HL.out]; exact hl10) 3 (by omega)]; rfl); have yf := row_frozen hs10.row (L * 5 + 3); clear hs10 ha10)))
          go_end0
          have hM := HS10.out.many l.length m (by rw [HL.out]; exact HLT.out)
          have hR := HRES.out _ _ _ _ HFIN.out
          rw [HL.out] at hM hR
          exact ⟨rfl, _, _, _, _, hR, hM.1, (HKT.out.trans (skept1 HA10.out HTL.out.sz)).trans hM.2⟩
        · go_wp2_with (first | (go_at_call 122; go_must (refine (t_must [125] (by simp) HT.out HTL.out).mono ?_; rintro e w10 ⟨rfl, hs10, ha10⟩; have HS10 := hide hs10; have HA10 := hide ha10; have y2 := hs10.box.cell 2 _ rfl; have hl10 := HLT.out; have y3 := owns_cell hs10.row rfl (L * 5 + 3) _ (by rw [← HL.out, cells_get (by rw [HL.out]; exact hl10) 3 (by omega)]; rfl); have yf := row_frozen hs10.row (L * 5 + 3); clear hs10 ha10)))
          go_end0
          have hM := HS10.out.many l.length 5 (by rw [HL.out]; exact HLT.out)
          have hR := HRES.out _ _ _ _ HFIN.out
          rw [HL.out] at hM hR
          exact ⟨rfl, _, _, _, _, hR, hM.1, (HKT.out.trans (skept1 HA10.out HTL.out.sz)).trans hM.2⟩
      · obtain ⟨rfl, hm5⟩ : bad' = false ∧ m < 5 := by
          cases bad'
          · exact ⟨rfl, by omega⟩
          · exact absurd (.inl rfl) hgo
        clear hgo hm
        have HTL0 := HTL
        have hgl0 := hgl'
        have HKT0 := HKT
        have HSA := hide (show l'.length ≤ 41 from HC.out.fine rfl)
        have HCS := hide (case_is (oneS part f) t a' l')
        have z41 : l'.length ≤ 41 := HSA.out
        obtain ⟨X, hX⟩ : ∃ x, ba ((t.toList.drop a').takeWhile inW) = x := ⟨_, rfl⟩
        obtain ⟨A1, hA1⟩ : ∃ x, wdA t a' = x := ⟨_, rfl⟩
        obtain ⟨A3, hA3⟩ : ∃ x, isA [40] t A1 false = x := ⟨_, rfl⟩
        obtain ⟨B3, hB3⟩ : ∃ x, isQ [40] t A1 false = x := ⟨_, rfl⟩
        obtain ⟨V, hV⟩ : ∃ x, ba ((t.toList.drop A3).takeWhile inW) = x := ⟨_, rfl⟩
        obtain ⟨A4, hA4⟩ : ∃ x, wdA t A3 = x := ⟨_, rfl⟩
        obtain ⟨A5, hA5⟩ : ∃ x, isA [41, 46] t A4 (!B3) = x := ⟨_, rfl⟩
        obtain ⟨B5, hB5⟩ : ∃ x, isQ [41, 46] t A4 (!B3) = x := ⟨_, rfl⟩
        rw [hX, hA1, hA3, hB3, hV, hA4, hA5, hB5] at HCS
        have HW1 := hide (t_word HT.out HTL.out)
        rw [hX, hA1] at HW1
        have HM1 : Hid (∀ w1, SrAt w1 rb base t part A1 (.slice (some ⟨g', 0, none⟩) l'.length c') l' false → Calls Tryz.prog 122 #[.pointer (some ⟨rb, 0, none⟩), .string ⟨#[40]⟩] w1 fun e w' => e = .returned (.tuple #[]) ∧ SrAt w' rb base t part A3 (.slice (some ⟨g', 0, none⟩) l'.length c') l' (!B3) ∧ Apart w1 w' [rb]) := hide (fun w1 h1 => by
          have := t_must [40] (by simp) HT.out h1
          rw [hA3, hB3] at this
          exact this)
        have HW2 : Hid (∀ w1, SrAt w1 rb base t part A3 (.slice (some ⟨g', 0, none⟩) l'.length c') l' (!B3) → Calls Tryz.prog 121 #[.pointer (some ⟨rb, 0, none⟩)] w1 fun e w' => e = .returned (.string V) ∧ SrAt w' rb base t part A4 (.slice (some ⟨g', 0, none⟩) l'.length c') l' (!B3) ∧ Apart w1 w' [rb]) := hide (fun w1 h1 => by
          have := t_word HT.out h1
          rw [hV, hA4] at this
          exact this)
        have HM2 : Hid (∀ w1, SrAt w1 rb base t part A4 (.slice (some ⟨g', 0, none⟩) l'.length c') l' (!B3) → Calls Tryz.prog 122 #[.pointer (some ⟨rb, 0, none⟩), .string ⟨#[41, 46]⟩] w1 fun e w' => e = .returned (.tuple #[]) ∧ SrAt w' rb base t part A5 (.slice (some ⟨g', 0, none⟩) l'.length c') l' (!B5) ∧ Apart w1 w' [rb]) := hide (fun w1 h1 => by
          have := t_must [41, 46] (by simp) HT.out h1
          rw [hA5, hB5] at this
          exact this)
        clear hX hA1 hA3 hB3 hV hA4 hA5 hB5 HTL HKT
        go_wp2_with (first
          | (go_at_call 121; (fail_if_success (have := HS1)); refine HW1.out.mono ?_; rintro e w1 ⟨rfl, hs1, ha1⟩; have HS1 := hide hs1; have HA1 := hide ha1; have l1 := hs1.box.lt; clear hs1 ha1)
          | (go_at_call 122; (fail_if_success (have := HS3)); go_must (obtain ⟨W2, hW2⟩ : ∃ W, W = w1.alloc (.cells #[.int .i64 4, .string X, .string ⟨#[]⟩, .int .i64 0, .int .i64 0] 45) := ⟨_, rfl⟩; rw [← hW2]; have HW22 := hide hW2; clear hW2; have HN2 := hide (noded w1 W2 4 0 0 X ⟨#[]⟩ HW22.out); refine (HM1.out _ (HS1.out.keep HN2.out.1)).mono ?_; rintro e w3 ⟨rfl, hs3, ha3⟩; have HS3 := hide hs3; have HA3 := hide ha3; have HN3 := hide (HN2.out.2.keep ha3 (by simp; omega)); clear hs3 ha3))
          | (go_at_call 121; have HMK := HS3; refine (HW2.out _ HS3.out).mono ?_; rintro e w4 ⟨rfl, hs4, ha4⟩; have HS4 := hide hs4; have HA4 := hide ha4; have HN4 := hide (HN3.out.keep ha4 (by simp; omega)); clear hs4 ha4))
        have HNG : Hid (∀ b ∈ vblocks (.slice (some ⟨g', 0, none⟩) l'.length c'), b ∉ [w1.heap.size]) := hide (fun b hb hm => by simp [vblocks, cellBlocks] at hb; simp at hm; have := HA1.out.size; omega)
        have HK4 : Hid (Skept wr w4 base rb ∧ w1.heap.size < w4.heap.size ∧ base ≤ w1.heap.size) := hide ⟨(((skept1 HA1.out HTL0.out.sz).trans (HN2.out.1.skept HS1.out.sz (by simp))).trans (skept1 HA3.out (HS1.out.keep HN2.out.1).sz)).trans (skept1 HA4.out HS3.out.sz), HN4.out.lt, HS1.out.sz⟩
        clear HN2 HN3 HS1 HS3 HA1 HA3 HA4 HW1 HW2 HM1 HW22
        go_loopw [10] (fun iv wq => ∃ i : Nat, i ≤ 3 ∧ iv = .int .i64 (i : Int) ∧ SrAt wq rb base t part A4 (.slice (some ⟨g', 0, none⟩) l'.length c') l' (!B3) ∧ BoxL wq w1.heap.size [.int .i64 4, .string X, .string ⟨#[]⟩, .int .i64 0, .int .i64 (soUp V i)] ∧ Skept wr wq base rb) (fun iv _ => 3 - (intOf iv).toNat)
        case atStart => exact ⟨0, by omega, rfl, HS4.out, HN4.out, HK4.out.1⟩
        case round =>
          clear HS4 HN4
          obtain ⟨i, hi3, rfl, hsq, hbq, hkq⟩ := hrel
          have HSQ := hide hsq
          have HBQ := hide hbq
          have HKQ := hide hkq
          have hqz := hbq.fz
          have hql := hbq.lt
          clear hsq hbq hkq
          by_cases hlt3 : i < 3
          · obtain ⟨SI, hSI⟩ : ∃ x, sortT (i : Int) = x := ⟨_, rfl⟩
            have HSI := hide hSI
            have HST := hide (s_sortText (i : Int) wr (by omega) (by omega))
            rw [hSI] at HST
            obtain ⟨q, hq⟩ : ∃ q, (SI.toList == V.toList) = q := ⟨_, rfl⟩
            have HUP : Hid (soUp V (i + 1) = if q then (i : Int) else soUp V i) := hide (by rw [soUp, hSI, hq])
            clear hSI
            cases q
            · go_wp2_with (first
                | (go_at_call 109; refine HST.out.mono ?_; rintro e w6 ⟨rfl, hb6⟩; have HB6 := hide hb6; clear hb6))
              go_roundw
              case rel =>
                refine ⟨i + 1, hlt3, by go_num, HSQ.out.keep (below_apart HB6.out), ?_, HKQ.out.trans ((below_apart HB6.out).skept HSQ.out.sz (by simp))⟩
                rw [HUP.out]
                exact HBQ.out.keep (below_apart HB6.out) (by simp)
              case measure => simp [intOf]; omega
            · go_wp2_with (first
                | (go_at_call 109; refine HST.out.mono ?_; rintro e w6 ⟨rfl, hb6⟩; have HB6 := hide hb6; have HX6 := hide (HBQ.out.keep (below_apart hb6) (by simp)); have x4 := HX6.out.cell 4 _ rfl; have xz := HX6.out.fz; clear hb6))
              go_roundw
              case rel =>
                have hz := HK4.out.2
                have hrb := HSQ.out.low
                have hS6 := HSQ.out.keep (below_apart HB6.out)
                have hA6 := setCell_apart w6 w1.heap.size 4 (.int .i64 (i : Int))
                refine ⟨i + 1, hlt3, by go_num, ⟨hS6.box.keep hA6 (by simp; omega), owns_keep hS6.row hA6 (fun b hb hm => HNG.out b hb hm), hS6.at_, hS6.low, Nat.le_trans hS6.sz hA6.size⟩, ?_, (HKQ.out.trans ((below_apart HB6.out).skept HSQ.out.sz (by simp))).trans (hA6.skept hS6.sz (fun b hb => by simp at hb; omega))⟩
                rw [HUP.out]
                exact HX6.out.set 4 (by simp) _
              case measure => simp [intOf]; omega
          · obtain rfl : i = 3 := by omega
            clear hlt3 hi3
            obtain ⟨so3, hso⟩ : ∃ x, soUp V 3 = x := ⟨_, rfl⟩
            rw [hso] at HBQ HCS
            clear hso hqz
            go_wp2_with (first
              | (go_at_call 122; refine (HM2.out _ HSQ.out).mono ?_; rintro e w7 ⟨rfl, hs7, ha7⟩; have HS7 := hide hs7; have HA7 := hide ha7; have HN7 := hide (HBQ.out.keep ha7 (by have h1 := HK4.out.2.2; have h2 := HSQ.out.low; simp; omega)); have x0 := HN7.out.cell 0 _ rfl; have x1 := HN7.out.cell 1 _ rfl; have x2 := HN7.out.cell 2 _ rfl; have x3 := HN7.out.cell 3 _ rfl; have x4 := HN7.out.cell 4 _ rfl; have xl := HN7.out.lt; have d2 := hs7.box.cell 2 _ rfl; have dz := hs7.box.fz; have dl := hs7.box.lt; clear hs7 ha7))
            have HK7 := hide (HKQ.out.trans (skept1 HA7.out HSQ.out.sz))
            clear HSQ HKQ HA7 HBQ HN7 HM2
            go_region_law (first
              | (refine stepM_at rfl (.tmp 58) (.tmp 60) 23 rfl base 45 i0 (.agg #[.int .i64 0, .string ByteArray.empty, .string ByteArray.empty, .int .i64 0, .int .i64 0]) 5 56 Tryz.underlying23 HI.out.1 HI.out.2.1 HI.out.2.2.1 HI.out.2.2.2 rfl (by decide) (.slice (some ⟨g', 0, none⟩) l'.length c') l'.length (l'.flatMap Nd.cells) (by simp [Act.eval]) (owns_below HS7.out.drew.row (malloc1 _ _)) ⟨w7.heap.size, 0, none⟩ 1 1 (Nd.cells ⟨4, X, noT, 0, so3⟩) (by simp [Act.eval]) rfl (node_new w7.drew ⟨4, X, noT, 0, so3⟩) (Nd.cells_one _) (by unfold maxLen; omega) (by omega) (by have := HS7.out.sz; simp; omega) ?_; intro v8 w8 hown8 hgr8 hat8; have HP := hide (HS7.out.drew.push ⟨4, X, noT, 0, so3⟩ _ hown8 hgr8 hat8); have e2 := HP.out.2.2.cell 2 _ rfl; have ez := HP.out.2.2.fz; obtain ⟨p8, c8, rfl⟩ := owns_shape hown8; clear hown8 hgr8 hat8)
              | fail)
            all_goals
              have HK8 := hide ((HK7.out.trans ((Apart.refl w7).drew.skept HS7.out.sz (by simp))).trans HP.out.2.1)
              clear d2 dz dl x0 x1 x2 x3 x4 xl
              go_wp2_with (first
                | (go_at_call 83; refine (HONE.out _ _ _ _ _ (by simp; omega) HP.out.1).mono ?_; rintro e w9 ⟨rfl, a9, lv9, l9, b9, he9, hs9, hk9⟩; have HE9 := hide (HCS.out.trans he9); obtain ⟨g9, c9, rfl, -, -⟩ := hs9.row.at_ (by have := (HC.out.step (W := w9) (W' := w9) (lv' := .slice none 0 0) hm5 HE9.out).2.2; omega); have HS9 := hide hs9; have HK9 := hide (HK8.out.trans hk9); clear he9 hs9 hk9)
                | (go_at_call 123; go_must (have hI := t_is [44] (by simp) HT.out HS9.out; obtain ⟨q, hq⟩ : ∃ q, isQ [44] t a9 b9 = q := ⟨_, rfl⟩; rw [hq] at hI; refine hI.mono ?_; have HQ9 := hide hq; clear hI hq; rintro e w11 ⟨rfl, hs11, ha11⟩; have HS11 := hide hs11; have HK11 := hide (HK9.out.trans (skept1 ha11 HS9.out.sz)); clear hs11 ha11; cases q)))
              all_goals first
                | (have hqt : isQ [44] t a9 b9 = true := HQ9.out
                   go_roundw
                   case rel => exact ⟨m + 1, _, _, _, _, by go_num, (HC.out.step (W := w11) (W' := w11) hm5 HE9.out).1 hqt HS11.out HK11.out⟩
                   case measure => simp [intOf]; omega)
                | (have hqf : isQ [44] t a9 b9 = false := HQ9.out
                   have HTL : Hid (SrAt w11 rb base t part a9 (.slice (some ⟨g9, 0, none⟩) l9.length c9) l9 b9) := hide (by have h := HS11.out; unfold isA at h; rw [hqf] at h; exact h)
                   have hst := HC.out.step (W := w11) (W' := w11) (lv' := .slice none 0 0) hm5 HE9.out
                   have HFIN := hide (hst.2.1 hqf)
                   have HLT : Hid (L < l9.length) := hide (by rw [← HL.out]; exact hst.2.2)
                   have HKT := hide (HC.out.kept.trans HK11.out)
                   clear hst hqf HS11
                   rw [HL.out]
                   go_wp2_with (first | (go_at_call 122; go_must (refine (t_must [125] (by simp) HT.out HTL.out).mono ?_; rintro e w10 ⟨rfl, hs10, ha10⟩; have HS10 := hide hs10; have HA10 := hide ha10; have y2 := hs10.box.cell 2 _ rfl; have hl10 := HLT.out; have y3 := owns_cell hs10.row rfl (L * 5 + 3) _ (by rw [← HL.out, cells_get (by rw [HL.out]; exact hl10) 3 (by omega)]; rfl); have yf := row_frozen hs10.row (L * 5 + 3); clear hs10 ha10)))
                   go_end0
                   have hM := HS10.out.many l.length (m + 1) (by rw [HL.out]; exact HLT.out)
                   have hR := HRES.out _ _ _ _ HFIN.out
                   rw [HL.out] at hM hR
                   rw [show ((m + 1 : Nat) : Int) = (m : Int) + 1 from by omega] at hM
                   exact ⟨rfl, _, _, _, _, hR, hM.1, (HKT.out.trans (skept1 HA10.out HTL.out.sz)).trans hM.2⟩)
end Go.Proofs.YtmjlblbhakppfaaGreatDoor
