import Derived.Test.YtlbcnmcfljaijaaQF35
import Derived.Test.YtlbcnmcfljaijaaQF26
namespace Go.Proofs.Ytlbcnmcfljaijaa
open Go.RowKit

def drT0 : ByteArray := ba [97, 62, 98, 123, 104, 105, 40, 105, 110, 116, 41, 46, 98, 62, 97, 123, 121, 101, 115, 40, 116, 101, 120, 116, 41, 46, 101, 110, 100, 44, 110, 111, 40, 110, 111, 110, 101, 41, 46, 101, 110, 100, 125, 125]
def drN0 : List Nd := [⟨3, ba [97], ba [98], 1, 0⟩, ⟨4, ba [104, 105], noT, 0, 1⟩, ⟨3, ba [98], ba [97], 2, 0⟩, ⟨4, ba [121, 101, 115], noT, 0, 2⟩, ⟨0, noT, noT, 0, 0⟩, ⟨4, ba [110, 111], noT, 0, 0⟩, ⟨0, noT, noT, 0, 0⟩]
theorem dr_is0 : IsText false drT0 drN0 := ⟨by kernel_rfl, by kernel_rfl⟩
def drT1 : ByteArray := ba [114, 101, 99, 32, 120, 46, 97, 62, 98, 123, 109, 111, 114, 101, 40, 105, 110, 116, 41, 46, 120, 44, 115, 116, 111, 112, 40, 110, 111, 110, 101, 41, 46, 101, 110, 100, 125]
def drN1 : List Nd := [⟨2, ba [120], noT, 0, 0⟩, ⟨3, ba [97], ba [98], 2, 0⟩, ⟨4, ba [109, 111, 114, 101], noT, 0, 1⟩, ⟨1, ba [120], noT, 0, 0⟩, ⟨4, ba [115, 116, 111, 112], noT, 0, 0⟩, ⟨0, noT, noT, 0, 0⟩]
theorem dr_is1 : IsText false drT1 drN1 := ⟨by kernel_rfl, by kernel_rfl⟩
def drT2 : ByteArray := ba [97, 62, 98, 123, 103, 111, 40, 105, 110, 116, 41, 46, 98, 62, 99, 123, 103, 111, 40, 105, 110, 116, 41, 46, 99, 62, 97, 123, 100, 111, 110, 101, 40, 110, 111, 110, 101, 41, 46, 101, 110, 100, 125, 125, 44, 113, 117, 105, 116, 40, 110, 111, 110, 101, 41, 46, 98, 62, 99, 123, 113, 117, 105, 116, 40, 110, 111, 110, 101, 41, 46, 99, 62, 97, 123, 100, 111, 110, 101, 40, 110, 111, 110, 101, 41, 46, 101, 110, 100, 125, 125, 125]
def drN2 : List Nd := [⟨3, ba [97], ba [98], 2, 0⟩, ⟨4, ba [103, 111], noT, 0, 1⟩, ⟨3, ba [98], ba [99], 1, 0⟩, ⟨4, ba [103, 111], noT, 0, 1⟩, ⟨3, ba [99], ba [97], 1, 0⟩, ⟨4, ba [100, 111, 110, 101], noT, 0, 0⟩, ⟨0, noT, noT, 0, 0⟩, ⟨4, ba [113, 117, 105, 116], noT, 0, 0⟩, ⟨3, ba [98], ba [99], 1, 0⟩, ⟨4, ba [113, 117, 105, 116], noT, 0, 0⟩, ⟨3, ba [99], ba [97], 1, 0⟩, ⟨4, ba [100, 111, 110, 101], noT, 0, 0⟩, ⟨0, noT, noT, 0, 0⟩]
theorem dr_is2 : IsText false drT2 drN2 := ⟨by kernel_rfl, by kernel_rfl⟩
def drT3 : ByteArray := ba [114, 101, 99, 32, 120, 46, 97, 62, 98, 123, 112, 117, 116, 40, 116, 101, 120, 116, 41, 46, 98, 62, 97, 123, 97, 99, 107, 40, 110, 111, 110, 101, 41, 46, 120, 125, 44, 98, 121, 101, 40, 110, 111, 110, 101, 41, 46, 101, 110, 100, 125]
def drN3 : List Nd := [⟨2, ba [120], noT, 0, 0⟩, ⟨3, ba [97], ba [98], 2, 0⟩, ⟨4, ba [112, 117, 116], noT, 0, 2⟩, ⟨3, ba [98], ba [97], 1, 0⟩, ⟨4, ba [97, 99, 107], noT, 0, 0⟩, ⟨1, ba [120], noT, 0, 0⟩, ⟨4, ba [98, 121, 101], noT, 0, 0⟩, ⟨0, noT, noT, 0, 0⟩]
theorem dr_is3 : IsText false drT3 drN3 := ⟨by kernel_rfl, by kernel_rfl⟩
def drT4 : ByteArray := ba [114, 101, 99, 32, 120, 46, 97, 62, 98, 123, 97, 115, 107, 40, 105, 110, 116, 41, 46, 98, 62, 99, 123, 97, 115, 107, 40, 105, 110, 116, 41, 46, 99, 62, 98, 123, 115, 97, 121, 40, 116, 101, 120, 116, 41, 46, 98, 62, 97, 123, 115, 97, 121, 40, 116, 101, 120, 116, 41, 46, 120, 125, 125, 125, 44, 115, 116, 111, 112, 40, 110, 111, 110, 101, 41, 46, 98, 62, 99, 123, 115, 116, 111, 112, 40, 110, 111, 110, 101, 41, 46, 101, 110, 100, 125, 125]
def drN4 : List Nd := [⟨2, ba [120], noT, 0, 0⟩, ⟨3, ba [97], ba [98], 2, 0⟩, ⟨4, ba [97, 115, 107], noT, 0, 1⟩, ⟨3, ba [98], ba [99], 1, 0⟩, ⟨4, ba [97, 115, 107], noT, 0, 1⟩, ⟨3, ba [99], ba [98], 1, 0⟩, ⟨4, ba [115, 97, 121], noT, 0, 2⟩, ⟨3, ba [98], ba [97], 1, 0⟩, ⟨4, ba [115, 97, 121], noT, 0, 2⟩, ⟨1, ba [120], noT, 0, 0⟩, ⟨4, ba [115, 116, 111, 112], noT, 0, 0⟩, ⟨3, ba [98], ba [99], 1, 0⟩, ⟨4, ba [115, 116, 111, 112], noT, 0, 0⟩, ⟨0, noT, noT, 0, 0⟩]
theorem dr_is4 : IsText false drT4 drN4 := ⟨by kernel_rfl, by kernel_rfl⟩
def drT5 : ByteArray := ba [97, 62, 98, 123, 111, 110, 101, 40, 105, 110, 116, 41, 46, 99, 62, 100, 123, 116, 119, 111, 40, 105, 110, 116, 41, 46, 98, 62, 97, 123, 116, 104, 114, 101, 101, 40, 110, 111, 110, 101, 41, 46, 101, 110, 100, 125, 125, 125]
def drN5 : List Nd := [⟨3, ba [97], ba [98], 1, 0⟩, ⟨4, ba [111, 110, 101], noT, 0, 1⟩, ⟨3, ba [99], ba [100], 1, 0⟩, ⟨4, ba [116, 119, 111], noT, 0, 1⟩, ⟨3, ba [98], ba [97], 1, 0⟩, ⟨4, ba [116, 104, 114, 101, 101], noT, 0, 0⟩, ⟨0, noT, noT, 0, 0⟩]
theorem dr_is5 : IsText false drT5 drN5 := ⟨by kernel_rfl, by kernel_rfl⟩
def drT6 : ByteArray := ba [114, 101, 99, 32, 120, 46, 97, 62, 98, 123, 108, 40, 110, 111, 110, 101, 41, 46, 114, 101, 99, 32, 121, 46, 98, 62, 97, 123, 109, 40, 110, 111, 110, 101, 41, 46, 121, 44, 110, 40, 110, 111, 110, 101, 41, 46, 120, 44, 111, 40, 110, 111, 110, 101, 41, 46, 101, 110, 100, 125, 125]
def drN6 : List Nd := [⟨2, ba [120], noT, 0, 0⟩, ⟨3, ba [97], ba [98], 1, 0⟩, ⟨4, ba [108], noT, 0, 0⟩, ⟨2, ba [121], noT, 0, 0⟩, ⟨3, ba [98], ba [97], 3, 0⟩, ⟨4, ba [109], noT, 0, 0⟩, ⟨1, ba [121], noT, 0, 0⟩, ⟨4, ba [110], noT, 0, 0⟩, ⟨1, ba [120], noT, 0, 0⟩, ⟨4, ba [111], noT, 0, 0⟩, ⟨0, noT, noT, 0, 0⟩]
theorem dr_is6 : IsText false drT6 drN6 := ⟨by kernel_rfl, by kernel_rfl⟩
def drT7 : ByteArray := ba [97, 62, 98, 123, 108, 40, 110, 111, 110, 101, 41, 46, 98, 62, 99, 123, 120, 40, 110, 111, 110, 101, 41, 46, 101, 110, 100, 125, 44, 109, 40, 110, 111, 110, 101, 41, 46, 101, 110, 100, 125]
def drN7 : List Nd := [⟨3, ba [97], ba [98], 2, 0⟩, ⟨4, ba [108], noT, 0, 0⟩, ⟨3, ba [98], ba [99], 1, 0⟩, ⟨4, ba [120], noT, 0, 0⟩, ⟨0, noT, noT, 0, 0⟩, ⟨4, ba [109], noT, 0, 0⟩, ⟨0, noT, noT, 0, 0⟩]
theorem dr_is7 : IsText false drT7 drN7 := ⟨by kernel_rfl, by kernel_rfl⟩
def drT8 : ByteArray := ba [114, 101, 99, 32, 120, 46, 97, 62, 98, 123, 108, 40, 110, 111, 110, 101, 41, 46, 120, 44, 109, 40, 110, 111, 110, 101, 41, 46, 99, 62, 97, 123, 107, 40, 110, 111, 110, 101, 41, 46, 101, 110, 100, 125, 125]
def drN8 : List Nd := [⟨2, ba [120], noT, 0, 0⟩, ⟨3, ba [97], ba [98], 2, 0⟩, ⟨4, ba [108], noT, 0, 0⟩, ⟨1, ba [120], noT, 0, 0⟩, ⟨4, ba [109], noT, 0, 0⟩, ⟨3, ba [99], ba [97], 1, 0⟩, ⟨4, ba [107], noT, 0, 0⟩, ⟨0, noT, noT, 0, 0⟩]
theorem dr_is8 : IsText false drT8 drN8 := ⟨by kernel_rfl, by kernel_rfl⟩
end Go.Proofs.Ytlbcnmcfljaijaa
namespace Go.Proofs.Ytlbcnmcfljaijaa
open Go.RowKit
set_option linter.unusedSimpArgs false
set_option linter.unusedVariables false

structure Skept (w w' : World) (base rb : Nat) : Prop where
  os : w'.os = w.os
  tape : w'.tape = w.tape
  output : w'.output = w.output
  size : w.heap.size ≤ w'.heap.size
  block : ∀ b, b < base → b ≠ rb → w'.heap[b]? = w.heap[b]?
theorem Skept.refl (w : World) (base rb : Nat) : Skept w w base rb := ⟨rfl, rfl, rfl, Nat.le_refl _, fun _ _ _ => rfl⟩
theorem Skept.trans {a b c : World} {base rb : Nat} (h : Skept a b base rb) (h' : Skept b c base rb) : Skept a c base rb :=
  ⟨h'.os.trans h.os, h'.tape.trans h.tape, h'.output.trans h.output, Nat.le_trans h.size h'.size, fun k hk hn => (h'.block k hk hn).trans (h.block k hk hn)⟩
theorem Apart.skept {w w' : World} {l : List Nat} {base rb : Nat} (h : Apart w w' l) (hb : base ≤ w.heap.size) (hl : ∀ b ∈ l, b = rb ∨ base ≤ b) : Skept w w' base rb :=
  ⟨h.os, h.tape, h.output, h.size, fun b hlt hn => h.block b (Nat.lt_of_lt_of_le hlt hb) (fun hm => by rcases hl b hm with q | q; exact hn q; omega)⟩
structure SrAt (W : World) (rb base : Nat) (t : ByteArray) (part : Bool) (a : Nat) (lv : Value) (l : List Nd) (bad : Bool) : Prop where
  box : BoxL W rb [.string t, .int .i64 (a : Int), lv, .bool part, .bool bad]
  row : NdOwn W base lv l
  at_ : a ≤ t.size
  low : rb < base
  sz : base ≤ W.heap.size
theorem SrAt.keep {W W' : World} {rb base : Nat} {t : ByteArray} {part : Bool} {a : Nat} {lv : Value} {l : List Nd} {bad : Bool} (h : SrAt W rb base t part a lv l bad) (ha : Apart W W' []) : SrAt W' rb base t part a lv l bad :=
  ⟨h.box.keep ha (by simp), owns_keep h.row ha (fun _ _ => by simp), h.at_, h.low, Nat.le_trans h.sz ha.size⟩
theorem SrAt.moved {W W' : World} {rb base : Nat} {t : ByteArray} {part : Bool} {a a' : Nat} {lv : Value} {l : List Nd} {bad bad' : Bool} (h : SrAt W rb base t part a lv l bad) (ha : Apart W W' [rb]) (hb : BoxL W' rb [.string t, .int .i64 (a' : Int), lv, .bool part, .bool bad']) (ha' : a' ≤ t.size) : SrAt W' rb base t part a' lv l bad' :=
  ⟨hb, owns_keep h.row ha (fun b hm hn => by have := (owns_fresh h.row).lo b hm; simp at hn; have := h.low; omega), ha', h.low, Nat.le_trans h.sz ha.size⟩
theorem SrAt.push {W w4 : World} {rb base : Nat} {t : ByteArray} {part : Bool} {a : Nat} {lv v4 : Value} {l : List Nd} {bad : Bool} (h : SrAt W rb base t part a lv l bad) (n : Nd) (o : Obj)
    (hown : w4.ownsRow base 87 5 v4 (l.length + 1) (l.flatMap Nd.cells ++ n.cells)) (hg : (W.alloc o).grownBy w4 lv.ownBlock) (hat : v4.ownBlock = lv.ownBlock ∨ v4.ownBlock = some (W.alloc o).heap.size) :
    SrAt (w4.setCell ⟨rb, 2, none⟩ v4) rb base t part a v4 (l ++ [n]) bad ∧ Skept W (w4.setCell ⟨rb, 2, none⟩ v4) base rb ∧ BoxL w4 rb [.string t, .int .i64 (a : Int), lv, .bool part, .bool bad] := by
  obtain ⟨hA, hs⟩ := row_sub h.row o hown hg hat
  have lo := (owns_fresh h.row).lo
  have lo4 := (owns_fresh hown).lo
  have hl := h.low
  have hS := setCell_apart w4 rb 2 v4
  have hA2 := hA.trans hS
  have hB := h.box.keep hA (fun hb => by have := lo _ hb; omega)
  refine ⟨⟨hB.set 2 (by simp) _, ?_, h.at_, h.low, Nat.le_trans h.sz hA2.size⟩, hA2.skept h.sz (fun b hb => ?_), hB⟩
  · unfold NdOwn
    rw [List.length_append, List.flatMap_append]
    have := owns_keep hown hS (fun b hb hm => by have := lo4 b hb; simp at hm; omega)
    simpa using this
  · rw [List.mem_append] at hb
    rcases hb with hb | hb
    · exact .inr (lo b hb)
    · simp at hb; exact .inl hb
theorem cells_many (l : List Nd) (i m : Nat) (h : i < l.length) : (l.flatMap Nd.cells).set (i * 5 + 3) (.int .i64 (m : Int)) = (setMany l i m).flatMap Nd.cells := by
  unfold setMany
  induction l generalizing i with
  | nil => simp at h
  | cons a l ih =>
    cases i with
    | zero => rfl
    | succ i =>
      rw [List.modify_succ_cons, List.flatMap_cons, List.flatMap_cons, List.set_append_right _ _ (by rw [Nd.cells_len]; omega), Nd.cells_len, show (i + 1) * 5 + 3 - 5 = i * 5 + 3 by omega]
      congr 1
      exact ih i (by simpa using h)
theorem SrAt.many {W : World} {rb base : Nat} {t : ByteArray} {part : Bool} {a g c : Nat} {l : List Nd} {bad : Bool} (h : SrAt W rb base t part a (.slice (some ⟨g, 0, none⟩) l.length c) l bad) (i m : Nat) (hi : i < l.length) :
    SrAt (W.setCell ⟨g, i * 5 + 3, none⟩ (.int .i64 (m : Int))) rb base t part a (.slice (some ⟨g, 0, none⟩) l.length c) (setMany l i m) bad ∧ Skept W (W.setCell ⟨g, i * 5 + 3, none⟩ (.int .i64 (m : Int))) base rb := by
  have hA := setCell_apart W g (i * 5 + 3) (.int .i64 (m : Int))
  have hg : g ∈ vblocks (.slice (some ⟨g, 0, none⟩) l.length c) := by simp [vblocks, cellBlocks]
  have h1 := (owns_fresh h.row).lo g hg
  have hl := h.low
  refine ⟨⟨h.box.keep hA (by simp; omega), ?_, h.at_, h.low, Nat.le_trans h.sz hA.size⟩, hA.skept h.sz (fun b hb => by simp at hb; omega)⟩
  have hr := h.row
  unfold NdOwn at hr ⊢
  obtain ⟨h2, h3⟩ := hr
  rw [set_mlen]
  refine ⟨by rw [cells_len2, set_mlen], ?_⟩
  rcases h3 with ⟨e, _⟩ | ⟨g', cap, cur, e, hg', hb, h4, h5, h6, h7⟩
  · simp at e
  · injection e with e1 e2 e3
    injection e1 with e1
    injection e1 with e1
    subst e1 e3
    refine .inr ⟨g, c, cur.setIfInBounds (i * 5 + 3) (.int .i64 (m : Int)), rfl, hg', heap_setCell_same _ _ _ _ _ _ hb, h4, h5, by simpa using h6, ?_⟩
    rw [Array.toList_setIfInBounds, List.take_set, h7]
    exact cells_many l i m hi
theorem t_is (x : List UInt8) {t : ByteArray} {a rb base : Nat} {lv : Value} {part bad : Bool} {l : List Nd} {w : World} (hx : x.length ≤ 8000) (ht : t.size ≤ 8000) (h : SrAt w rb base t part a lv l bad) :
    Calls Try.prog 82 #[.pointer (some ⟨rb, 0, none⟩), .string (ba x)] w fun e w' => e = .returned (.bool (isQ x t a bad)) ∧ SrAt w' rb base t part (isA x t a bad) lv l bad ∧ Apart w w' [rb] :=
  (sr_is x t a rb lv part bad w hx ht h.at_ h.box).mono fun _ _ hh => ⟨hh.1, h.moved hh.2.1 hh.2.2 (isA_le h.at_), hh.2.1⟩
theorem t_must (x : List UInt8) {t : ByteArray} {a rb base : Nat} {lv : Value} {part bad : Bool} {l : List Nd} {w : World} (hx : x.length ≤ 8000) (ht : t.size ≤ 8000) (h : SrAt w rb base t part a lv l bad) :
    Calls Try.prog 81 #[.pointer (some ⟨rb, 0, none⟩), .string (ba x)] w fun e w' => e = .returned (.tuple #[]) ∧ SrAt w' rb base t part (isA x t a bad) lv l (!isQ x t a bad) ∧ Apart w w' [rb] :=
  (sr_must x t a rb lv part bad w hx ht h.at_ h.box).mono fun _ _ hh => ⟨hh.1, h.moved hh.2.1 hh.2.2 (isA_le h.at_), hh.2.1⟩
theorem t_word {t : ByteArray} {a rb base : Nat} {lv : Value} {part bad : Bool} {l : List Nd} {w : World} (ht : t.size ≤ 8000) (h : SrAt w rb base t part a lv l bad) :
    Calls Try.prog 80 #[.pointer (some ⟨rb, 0, none⟩)] w fun e w' => e = .returned (.string (ba ((t.toList.drop a).takeWhile inW))) ∧ SrAt w' rb base t part (wdA t a) lv l bad ∧ Apart w w' [rb] :=
  (sr_word t a rb lv part bad w ht h.at_ h.box).mono fun _ _ hh => ⟨hh.1, h.moved hh.2.1 hh.2.2 (wdA_le h.at_), hh.2.1⟩
def SrRes (w w' : World) (rb base : Nat) (t : ByteArray) (part : Bool) (s : Ss) : Prop := ∃ a lv l bad, s = stS t a l bad ∧ SrAt w' rb base t part a lv l bad ∧ Skept w w' base rb
def OneC (part : Bool) (t : ByteArray) (f : Nat) : Prop := ∀ (rb base a deep : Nat) (lv : Value) (l : List Nd) (bad : Bool) (w : World), f + deep = 12 → l.length ≤ 42 → SrAt w rb base t part a lv l bad →
  Calls Try.prog 71 #[.pointer (some ⟨rb, 0, none⟩), .int .i64 (deep : Int)] w fun e w' => e = .returned (.tuple #[]) ∧ SrRes w w' rb base t part (oneS part f (stS t a l bad))
end Go.Proofs.Ytlbcnmcfljaijaa
namespace Go.Proofs.Ytlbcnmcfljaijaa
open Go.RowKit
set_option linter.unusedSimpArgs false
set_option linter.unusedVariables false

theorem sr_one_bad (part : Bool) (t : ByteArray) (rb base a deep : Nat) (lv : Value) (l : List Nd) (bad : Bool) (w : World) (hd : deep ≤ 12) (h : deep = 12 ∨ bad = true ∨ 40 < l.length) (hl : l.length ≤ 42) (hs : SrAt w rb base t part a lv l bad) :
    Calls Try.prog 71 #[.pointer (some ⟨rb, 0, none⟩), .int .i64 (deep : Int)] w fun e w' => e = .returned (.tuple #[]) ∧ SrAt w' rb base t part a lv l true ∧ Skept w w' base rb := by
  have c4 := hs.box.cell 4 _ rfl
  have c2 := hs.box.cell 2 _ rfl
  have bz := hs.box.fz
  have HS := hide hs
  have HR : Hid (SrAt (w.setCell ⟨rb, 4, none⟩ (.bool true)) rb base t part a lv l true ∧ Skept w (w.setCell ⟨rb, 4, none⟩ (.bool true)) base rb) := hide ⟨hs.moved (setCell_apart w rb 4 _) (hs.box.set 4 (by simp) _) hs.at_, (setCell_apart w rb 4 _).skept hs.sz (fun b hb => by simp at hb; exact .inl hb)⟩
  obtain ⟨p, c, rfl⟩ := owns_shape hs.row
  clear hs
  cases bad
  · by_cases hdp : deep = 12
    · subst hdp
      clear h
      go_enter Try.func71, Try.ntmps71
      go_wp2_with fail
      refine bodyPost_ret (results_none rfl _ _ _) rfl ?_
      exact ⟨rfl, HR.out⟩
    · have h40 : 40 < l.length := by
        rcases h with h | h | h
        · exact absurd h hdp
        · cases h
        · exact h
      have hd2 : deep ≤ 11 := by omega
      clear h hdp
      go_enter Try.func71, Try.ntmps71
      go_wp2_with fail
      refine bodyPost_ret (results_none rfl _ _ _) rfl ?_
      exact ⟨rfl, HR.out⟩
  · clear h
    go_enter Try.func71, Try.ntmps71
    go_wp2_with fail
    refine bodyPost_ret (results_none rfl _ _ _) rfl ?_
    exact ⟨rfl, HR.out⟩
theorem node_new (w : World) (n : Nd) : ∀ j u, n.cells[j]? = some u → (w.alloc (.cells #[.int .i64 n.op, .string n.name, .string n.peer, .int .i64 n.many, .int .i64 n.sort] 87)).cell? (Addr.add ⟨w.heap.size, 0, none⟩ j) = some u := fun j u hj =>
  NdOwn.cell (l := [n]) (c := 1) (nd_lit w n 0 w.heap.size rfl (Nat.zero_le _)) j u (by simpa using hj)
theorem sr_one_end (part : Bool) (t : ByteArray) (rb base a deep : Nat) (lv : Value) (l : List Nd) (w : World) (ht : t.size ≤ 8000) (hd : deep ≤ 11) (hl : l.length ≤ 40) (X : ByteArray) (hX : ba ((t.toList.drop a).takeWhile inW) = X) (hn1 : (X.toList == [101, 110, 100]) = true) (hs : SrAt w rb base t part a lv l false) :
    Calls Try.prog 71 #[.pointer (some ⟨rb, 0, none⟩), .int .i64 (deep : Int)] w fun e w' => e = .returned (.tuple #[]) ∧ ∃ lv', SrAt w' rb base t part (wdA t a) lv' (l ++ [⟨0, noT, noT, 0, 0⟩]) false ∧ Skept w w' base rb := by
  have c4 := hs.box.cell 4 _ rfl
  have c2 := hs.box.cell 2 _ rfl
  have HW := t_word ht hs
  rw [hX] at HW
  have HWD := hide HW
  obtain ⟨p, c, rfl⟩ := owns_shape hs.row
  obtain ⟨i0, hi, hz0, hz1, hz2⟩ := info_parts Try.infoNd
  have HI := hide (And.intro hi (And.intro hz0 (And.intro hz1 hz2)))
  have HSZ := hide hs.sz
  clear hs HW hi hz0 hz1 hz2 hX
  go_enter Try.func71, Try.ntmps71
  go_wp2_with (first
    | (go_at_call 80; refine HWD.out.mono ?_; rintro e w1 ⟨rfl, hs1, ha1⟩; have HS1 := hide hs1; have HA1 := hide ha1; have d2 := hs1.box.cell 2 _ rfl; have dz := hs1.box.fz; clear hs1 ha1)
    | (at_builtin; refine wpList_append_own_at _ rfl (.tmp 45) (.tmp 47) 61 rfl base 87 i0 (.agg #[.int .i64 0, .string ByteArray.empty, .string ByteArray.empty, .int .i64 0, .int .i64 0]) 5 56 Try.underlying61 HI.out.1 HI.out.2.1 HI.out.2.2.1 HI.out.2.2.2 rfl (by decide) (.slice p l.length c) l.length (l.flatMap Nd.cells) rfl (owns_below HS1.out.row (malloc1 _ _)) ⟨w1.heap.size, 0, none⟩ 1 1 (Nd.cells ⟨0, noT, noT, 0, 0⟩) rfl rfl (node_new _ ⟨0, noT, noT, 0, 0⟩) (Nd.cells_one _) (by unfold maxLen; omega) (by omega) (by have := HS1.out.sz; simp; omega) ?_; intro v7 w7 hown7 hgr7 _ hat7; have HP := hide (HS1.out.push ⟨0, noT, noT, 0, 0⟩ _ hown7 hgr7 hat7); have e2 := HP.out.2.2.cell 2 _ rfl; have ez := HP.out.2.2.fz; obtain ⟨p7, c7, rfl⟩ := owns_shape hown7; clear hown7 hgr7 hat7))
  go_end0
  exact ⟨rfl, _, HP.out.1, (HA1.out.skept HSZ.out (fun b hb => by simp at hb; exact .inl hb)).trans HP.out.2.1⟩
theorem t_isF (x : List UInt8) {t : ByteArray} {a rb base : Nat} {lv : Value} {part bad : Bool} {l : List Nd} {w : World} (hx : x.length ≤ 8000) (ht : t.size ≤ 8000) (hq : isQ x t a bad = false) (h : SrAt w rb base t part a lv l bad) :
    Calls Try.prog 82 #[.pointer (some ⟨rb, 0, none⟩), .string (ba x)] w fun e w' => e = .returned (.bool false) ∧ SrAt w' rb base t part a lv l bad ∧ Apart w w' [rb] := by
  have := t_is x hx ht h
  unfold isA at this
  rw [hq] at this
  exact this
theorem t_isT (x : List UInt8) {t : ByteArray} {a rb base : Nat} {lv : Value} {part bad : Bool} {l : List Nd} {w : World} (hx : x.length ≤ 8000) (ht : t.size ≤ 8000) (hq : isQ x t a bad = true) (h : SrAt w rb base t part a lv l bad) :
    Calls Try.prog 82 #[.pointer (some ⟨rb, 0, none⟩), .string (ba x)] w fun e w' => e = .returned (.bool true) ∧ SrAt w' rb base t part (isA x t a bad) lv l bad ∧ Apart w w' [rb] := by
  have := t_is x hx ht h
  rw [hq] at this
  exact this
theorem skept1 {w w' : World} {base rb : Nat} (h : Apart w w' [rb]) (hb : base ≤ w.heap.size) : Skept w w' base rb := h.skept hb (fun b hb => by simp at hb; exact .inl hb)
theorem sr_one_var (part : Bool) (t : ByteArray) (rb base a deep : Nat) (lv : Value) (l : List Nd) (w : World) (ht : t.size ≤ 8000) (hd : deep ≤ 11) (hl : l.length ≤ 40) (X : ByteArray) (hX : ba ((t.toList.drop a).takeWhile inW) = X) (hn1 : (X.toList == [101, 110, 100]) = false) (hn2 : (X.toList == [114, 101, 99]) = false)
    (h1 : part = false → isQ [62] t (wdA t a) false = false) (h2 : part = true → isQ [33, 123] t (wdA t a) false = false) (h3 : part = true → isQ [63, 123] t (wdA t a) false = false) (hs : SrAt w rb base t part a lv l false) :
    Calls Try.prog 71 #[.pointer (some ⟨rb, 0, none⟩), .int .i64 (deep : Int)] w fun e w' => e = .returned (.tuple #[]) ∧ ∃ lv', SrAt w' rb base t part (wdA t a) lv' (l ++ [⟨1, X, noT, 0, 0⟩]) false ∧ Skept w w' base rb := by
  have c4 := hs.box.cell 4 _ rfl
  have c2 := hs.box.cell 2 _ rfl
  have HW := t_word ht hs
  rw [hX] at HW
  have HWD := hide HW
  obtain ⟨p, c, rfl⟩ := owns_shape hs.row
  obtain ⟨i0, hi, hz0, hz1, hz2⟩ := info_parts Try.infoNd
  have HI := hide (And.intro hi (And.intro hz0 (And.intro hz1 hz2)))
  have HSZ := hide hs.sz
  have HT := hide ht
  cases part
  · have HQ := hide (h1 rfl)
    clear hs HW hi hz0 hz1 hz2 hX h1 h2 h3 ht
    go_enter Try.func71, Try.ntmps71
    go_wp2_with (first
      | (go_at_call 80; refine HWD.out.mono ?_; rintro e w1 ⟨rfl, hs1, ha1⟩; have HS1 := hide hs1; have HA1 := hide ha1; have d3 := hs1.box.cell 3 _ rfl; have dz := hs1.box.fz; clear hs1 ha1)
      | (go_at_call 82; refine (t_isF [62] (by simp) HT.out HQ.out HS1.out).mono ?_; rintro e w2 ⟨rfl, hs2, ha2⟩; have HS2 := hide hs2; have HA2 := hide ha2; have f3 := hs2.box.cell 3 _ rfl; have f2 := hs2.box.cell 2 _ rfl; have fz := hs2.box.fz; clear hs2 ha2)
      | (at_builtin; refine wpList_append_own_at _ rfl (.tmp 31) (.tmp 34) 61 rfl base 87 i0 (.agg #[.int .i64 0, .string ByteArray.empty, .string ByteArray.empty, .int .i64 0, .int .i64 0]) 5 56 Try.underlying61 HI.out.1 HI.out.2.1 HI.out.2.2.1 HI.out.2.2.2 rfl (by decide) (.slice p l.length c) l.length (l.flatMap Nd.cells) rfl (owns_below HS2.out.row (malloc1 _ _)) ⟨w2.heap.size, 0, none⟩ 1 1 (Nd.cells ⟨1, X, noT, 0, 0⟩) rfl rfl (node_new _ ⟨1, X, noT, 0, 0⟩) (Nd.cells_one _) (by unfold maxLen; omega) (by omega) (by have := HS2.out.sz; simp; omega) ?_; intro v7 w7 hown7 hgr7 _ hat7; have HP := hide (HS2.out.push ⟨1, X, noT, 0, 0⟩ _ hown7 hgr7 hat7); have e2 := HP.out.2.2.cell 2 _ rfl; have ez := HP.out.2.2.fz; obtain ⟨p7, c7, rfl⟩ := owns_shape hown7; clear hown7 hgr7 hat7))
    go_end0
    exact ⟨rfl, _, HP.out.1, ((skept1 HA1.out HSZ.out).trans (skept1 HA2.out HS1.out.sz)).trans HP.out.2.1⟩
  · have HQ := hide (h2 rfl)
    have HQ' := hide (h3 rfl)
    clear hs HW hi hz0 hz1 hz2 hX h1 h2 h3 ht
    go_enter Try.func71, Try.ntmps71
    go_wp2_with (first
      | (go_at_call 80; refine HWD.out.mono ?_; rintro e w1 ⟨rfl, hs1, ha1⟩; have HS1 := hide hs1; have HA1 := hide ha1; have d3 := hs1.box.cell 3 _ rfl; have dz := hs1.box.fz; clear hs1 ha1)
      | (go_at_call 82; (fail_if_success (have := HS2)); refine (t_isF [33, 123] (by simp) HT.out HQ.out HS1.out).mono ?_; rintro e w2 ⟨rfl, hs2, ha2⟩; have HS2 := hide hs2; have HA2 := hide ha2; have f3 := hs2.box.cell 3 _ rfl; have f2 := hs2.box.cell 2 _ rfl; have fz := hs2.box.fz; clear hs2 ha2 d3 dz)
      | (go_at_call 82; have HM2 := HS2; refine (t_isF [63, 123] (by simp) HT.out HQ'.out HS2.out).mono ?_; rintro e w3 ⟨rfl, hs3, ha3⟩; have HS3 := hide hs3; have HA3 := hide ha3; clear f3 f2 fz; have f3 := hs3.box.cell 3 _ rfl; have f2 := hs3.box.cell 2 _ rfl; have fz := hs3.box.fz; clear hs3 ha3)
      | (at_builtin; refine wpList_append_own_at _ rfl (.tmp 31) (.tmp 34) 61 rfl base 87 i0 (.agg #[.int .i64 0, .string ByteArray.empty, .string ByteArray.empty, .int .i64 0, .int .i64 0]) 5 56 Try.underlying61 HI.out.1 HI.out.2.1 HI.out.2.2.1 HI.out.2.2.2 rfl (by decide) (.slice p l.length c) l.length (l.flatMap Nd.cells) rfl (owns_below HS3.out.row (malloc1 _ _)) ⟨w3.heap.size, 0, none⟩ 1 1 (Nd.cells ⟨1, X, noT, 0, 0⟩) rfl rfl (node_new _ ⟨1, X, noT, 0, 0⟩) (Nd.cells_one _) (by unfold maxLen; omega) (by omega) (by have := HS3.out.sz; simp; omega) ?_; intro v7 w7 hown7 hgr7 _ hat7; have HP := hide (HS3.out.push ⟨1, X, noT, 0, 0⟩ _ hown7 hgr7 hat7); have e2 := HP.out.2.2.cell 2 _ rfl; have ez := HP.out.2.2.fz; obtain ⟨p7, c7, rfl⟩ := owns_shape hown7; clear hown7 hgr7 hat7))
    go_end0
    exact ⟨rfl, _, HP.out.1, (((skept1 HA1.out HSZ.out).trans (skept1 HA2.out HS1.out.sz)).trans (skept1 HA3.out HS2.out.sz)).trans HP.out.2.1⟩
end Go.Proofs.Ytlbcnmcfljaijaa
