/- The nine texts out of which plans are drawn, and the rows that they tell. -/
import Derived.Test.YtmjlblbhakppfaaGreatDoorQB35
import Derived.Test.YtmjlblbhakppfaaGreatDoorQB37
import Derived.Test.YtmjlblbhakppfaaGreatDoorQB25
import Derived.BigQuiet
import Derived.Test.YtmjlblbhakppfaaGreatDoorQB01
namespace Go.Proofs.YtmjlblbhakppfaaGreatDoor
open Go.RowKit

def drT0 : ByteArray := ba [97, 62, 98, 123, 104, 105, 40, 105, 110, 116, 41, 46, 98, 62, 97, 123, 121, 101, 115, 40, 116, 101, 120, 116, 41, 46, 101, 110, 100, 44, 110, 111, 40, 110, 111, 110, 101, 41, 46, 101, 110, 100, 125, 125]
def drN0 : List Nd := [⟨3, ba [97], ba [98], 1, 0⟩, ⟨4, ba [104, 105], noT, 0, 1⟩, ⟨3, ba [98], ba [97], 2, 0⟩, ⟨4, ba [121, 101, 115], noT, 0, 2⟩, ⟨0, noT, noT, 0, 0⟩, ⟨4, ba [110, 111], noT, 0, 0⟩, ⟨0, noT, noT, 0, 0⟩]
theorem dr_is0 : IsText false drT0 drN0 := ⟨by kernel_rfl, by kernel_rfl⟩
def drT1 : ByteArray := ba [114, 101, 99, 32, 120, 46, 97, 62, 98, 123, 109, 111, 114, 101, 40, 105, 110, 116, 41, 46, 120, 44, 115, 116, 111, 112, 40, 110, 111, 110, 101, 41, 46, 101, 110, 100, 125]
def drN1 : List Nd := [⟨2, ba [120], noT, 0, 0⟩, ⟨3, ba [97], ba [98], 2, 0⟩, ⟨4, ba [109, 111, 114, 101], noT, 0, 1⟩, ⟨1, ba [120], noT, 0, 0⟩, ⟨4, ba [115, 116, 111, 112], noT, 0, 0⟩, ⟨0, noT, noT, 0, 0⟩]
theorem dr_is1 : IsText false drT1 drN1 := ⟨by kernel_rfl, by kernel_rfl⟩
def drT2 : ByteArray := ba [97, 62, 98, 123, 103, 111, 40, 105, 110, 116, 41, 46, 98, 62, 99, 123, 103, 111, 40, 105, 110, 116, 41, 46, 99, 62, 97, 123, 100, 111, 110, 101, 40, 110, 111, 110, 101, 41, 46, 101, 110, 100, 125, 125, 44, 113, 117, 105, 116, 40, 110, 111, 110, 101, 41, 46, 98, 62, 99, 123, 113, 117, 105, 116, 40, 110, 111, 110, 101, 41, 46, 99, 62, 97, 123, 100, 111, 110, 101, 40, 110, 111, 110, 101, 41, 46, 101, 110, 100, 125, 125, 125]
def drN2 : List Nd := [⟨3, ba [97], ba [98], 2, 0⟩, ⟨4, ba [103, 111], noT, 0, 1⟩, ⟨3, ba [98], ba [99], 1, 0⟩, ⟨4, ba [103, 111], noT, 0, 1⟩, ⟨3, ba [99], ba [97], 1, 0⟩, ⟨4, ba [100, 111, 110, 101], noT, 0, 0⟩, ⟨0, noT, noT, 0, 0⟩, ⟨4, ba [113, 117, 105, 116], noT, 0, 0⟩, ⟨3, ba [98], ba [99], 1, 0⟩, ⟨4, ba [113, 117, 105, 116], noT, 0, 0⟩, ⟨3, ba [99], ba [97], 1, 0⟩, ⟨4, ba [100, 111, 110, 101], noT, 0, 0⟩, ⟨0, noT, noT, 0, 0⟩]
theorem dr_is2 : IsText false drT2 drN2 := ⟨by kernel_rfl, by kernel_rfl⟩
def drT3 : ByteArray := ba [114, 101, 99, 32, 120, 46, 97, 62, 98, 123, 112, 117, 116, 40, 116, 101, 120, 116, 41, 46, 98, 62, 97, 123, 97, 99, 107, 40, 110, 111, 110, 101, 41, 46, 120, 125, 44, 98, 121, 101, 40, 110, 111, 110, 101, 41, 46, 101, 110, 100, 125]
def drN3 : List Nd := [⟨2, ba [120], noT, 0, 0⟩, ⟨3, ba [97], ba [98], 2, 0⟩, ⟨4, ba [112, 117, 116], noT, 0, 2⟩, ⟨3, ba [98], ba [97], 1, 0⟩, ⟨4, ba [97, 99, 107], noT, 0, 0⟩, ⟨1, ba [120], noT, 0, 0⟩, ⟨4, ba [98, 121, 101], noT, 0, 0⟩, ⟨0, noT, noT, 0, 0⟩]
theorem dr_is3 : IsText false drT3 drN3 := ⟨by kernel_rfl, by kernel_rfl⟩
def drT4 : ByteArray := ba [114, 101, 99, 32, 120, 46, 97, 62, 98, 123, 97, 115, 107, 40, 105, 110, 116, 41, 46, 98, 62, 99, 123, 97, 115, 107, 40, 105, 110, 116, 41, 46, 99, 62, 98, 123, 115, 97, 121, 40, 116, 101, 120, 116, 41, 46, 98, 62, 97, 123, 115, 97, 121, 40, 116, 101, 120, 116, 41, 46, 120, 125, 125, 125, 44, 115, 116, 111, 112, 40, 110, 111, 110, 101, 41, 46, 98, 62, 99, 123, 115, 116, 111, 112, 40, 110, 111, 110, 101, 41, 46, 101, 110, 100, 125, 125]
def drN4 : List Nd := [⟨2, ba [120], noT, 0, 0⟩, ⟨3, ba [97], ba [98], 2, 0⟩, ⟨4, ba [97, 115, 107], noT, 0, 1⟩, ⟨3, ba [98], ba [99], 1, 0⟩, ⟨4, ba [97, 115, 107], noT, 0, 1⟩, ⟨3, ba [99], ba [98], 1, 0⟩, ⟨4, ba [115, 97, 121], noT, 0, 2⟩, ⟨3, ba [98], ba [97], 1, 0⟩, ⟨4, ba [115, 97, 121], noT, 0, 2⟩, ⟨1, ba [120], noT, 0, 0⟩, ⟨4, ba [115, 116, 111, 112], noT, 0, 0⟩, ⟨3, ba [98], ba [99], 1, 0⟩, ⟨4, ba [115, 116, 111, 112], noT, 0, 0⟩, ⟨0, noT, noT, 0, 0⟩]
theorem dr_is4 : IsText false drT4 drN4 := ⟨by kernel_rfl, by kernel_rfl⟩
def drT5 : ByteArray := ba [97, 62, 98, 123, 111, 110, 101, 40, 105, 110, 116, 41, 46, 99, 62, 100, 123, 116, 119, 111, 40, 105, 110, 116, 41, 46, 98, 62, 97, 123, 116, 104, 114, 101, 101, 40, 110, 111, 110, 101, 41, 46, 101, 110, 100, 125, 125, 125]
def drN5 : List Nd := [⟨3, ba [97], ba [98], 1, 0⟩, ⟨4, ba [111, 110, 101], noT, 0, 1⟩, ⟨3, ba [99], ba [100], 1, 0⟩, ⟨4, ba [116, 119, 111], noT, 0, 1⟩, ⟨3, ba [98], ba [97], 1, 0⟩, ⟨4, ba [116, 104, 114, 101, 101], noT, 0, 0⟩, ⟨0, noT, noT, 0, 0⟩]
theorem dr_is5 : IsText false drT5 drN5 := ⟨by kernel_rfl, by kernel_rfl⟩
def drT6 : ByteArray := ba [114, 101, 99, 32, 120, 46, 97, 62, 98, 123, 108, 40, 110, 111, 110, 101, 41, 46, 114, 101, 99, 32, 121, 46, 98, 62, 97, 123, 109, 40, 110, 111, 110, 101, 41, 46, 121, 44, 110, 40, 110, 111, 110, 101, 41, 46, 120, 44, 111, 40, 110, 111, 110, 101, 41, 46, 101, 110, 100, 125, 125]
def drN6 : List Nd := [⟨2, ba [120], noT, 0, 0⟩, ⟨3, ba [97], ba [98], 1, 0⟩, ⟨4, ba [108], noT, 0, 0⟩, ⟨2, ba [121], noT, 0, 0⟩, ⟨3, ba [98], ba [97], 3, 0⟩, ⟨4, ba [109], noT, 0, 0⟩, ⟨1, ba [121], noT, 0, 0⟩, ⟨4, ba [110], noT, 0, 0⟩, ⟨1, ba [120], noT, 0, 0⟩, ⟨4, ba [111], noT, 0, 0⟩, ⟨0, noT, noT, 0, 0⟩]
theorem dr_is6 : IsText false drT6 drN6 := ⟨by kernel_rfl, by kernel_rfl⟩
def drT7 : ByteArray := ba [97, 62, 98, 123, 108, 40, 110, 111, 110, 101, 41, 46, 98, 62, 99, 123, 120, 40, 110, 111, 110, 101, 41, 46, 101, 110, 100, 125, 44, 109, 40, 110, 111, 110, 101, 41, 46, 101, 110, 100, 125]
def drN7 : List Nd := [⟨3, ba [97], ba [98], 2, 0⟩, ⟨4, ba [108], noT, 0, 0⟩, ⟨3, ba [98], ba [99], 1, 0⟩, ⟨4, ba [120], noT, 0, 0⟩, ⟨0, noT, noT, 0, 0⟩, ⟨4, ba [109], noT, 0, 0⟩, ⟨0, noT, noT, 0, 0⟩]
theorem dr_is7 : IsText false drT7 drN7 := ⟨by kernel_rfl, by kernel_rfl⟩
def drT8 : ByteArray := ba [114, 101, 99, 32, 120, 46, 97, 62, 98, 123, 108, 40, 110, 111, 110, 101, 41, 46, 120, 44, 109, 40, 110, 111, 110, 101, 41, 46, 99, 62, 97, 123, 107, 40, 110, 111, 110, 101, 41, 46, 101, 110, 100, 125, 125]
def drN8 : List Nd := [⟨2, ba [120], noT, 0, 0⟩, ⟨3, ba [97], ba [98], 2, 0⟩, ⟨4, ba [108], noT, 0, 0⟩, ⟨1, ba [120], noT, 0, 0⟩, ⟨4, ba [109], noT, 0, 0⟩, ⟨3, ba [99], ba [97], 1, 0⟩, ⟨4, ba [107], noT, 0, 0⟩, ⟨0, noT, noT, 0, 0⟩]
theorem dr_is8 : IsText false drT8 drN8 := ⟨by kernel_rfl, by kernel_rfl⟩
end Go.Proofs.YtmjlblbhakppfaaGreatDoor
/- l02Read of the specification: the right row whose text it is. -/
namespace Go.Proofs.YtmjlblbhakppfaaGreatDoor
open Go.RowKit
set_option linter.unusedSimpArgs false
set_option linter.unusedVariables false

theorem text_ne {part : Bool} {ns : List Nd} (h : rightB part ns = true) : (textF 10 ns).1.toList ≠ [] := by
  intro e
  have h1 := spec_reads h
  rw [e] at h1
  have h2 : oneS part 11 ⟨[], [], false⟩ = ⟨[], [⟨1, ba [], noT, 0, 0⟩], false⟩ := by
    rw [oneS]
    cases part <;> simp [wdS, skW, isS, pushS]
  rw [h2] at h1
  have h3 : [(⟨1, ba [], noT, 0, 0⟩ : Nd)] = ns := congrArg Ss.l h1
  rw [← h3] at h
  simp only [rightB, Bool.and_eq_true] at h
  have h4 := h.2.1
  rw [ahead] at h4
  simp [backB] at h4
/-- what l02Read finds -/
theorem read_is {part : Bool} {t : ByteArray} {a : Nat} {l : List Nd} {b : Bool} (h : oneS part 11 (stS t 0 [] false) = stS t a l b) (ns : List Nd) (hn : IsText part t ns) : l = ns ∧ b = false ∧ t.toList ≠ [] ∧ textV part l = t := by
  have h1 := spec_reads hn.1
  have e : (⟨(textF 10 ns).1.toList, [], false⟩ : Ss) = stS t 0 [] false := by rw [hn.2]; rfl
  rw [e, h] at h1
  have hl : l = ns := congrArg Ss.l h1
  have hb : b = false := congrArg Ss.bad h1
  refine ⟨hl, hb, ?_, ?_⟩
  · rw [← hn.2]
    exact text_ne hn.1
  · rw [hl, textV, hn.1]
    exact hn.2
theorem whole_is {part : Bool} {t : ByteArray} {l : List Nd} (h : textV part l = t) (hne : t.toList ≠ []) : IsText part t l := by
  unfold textV at h
  split at h
  · rename_i hr
    exact ⟨hr, h⟩
  · exfalso
    rw [← h] at hne
    exact hne (by rw [Go.ByteArray.toList_eq]; rfl)
/-- what l02Read answers -/
def RdS (part : Bool) (t : ByteArray) (w w' : World) (e : Ending) : Prop := ∃ p n c l q, e = .returned (.tuple #[.slice p n c, .bool q]) ∧ Below w.heap.size w w' ∧ ((q = true ∧ NdOwn w' w.heap.size (.slice p n c) l ∧ IsText part t l) ∨ (q = false ∧ ∀ ns, ¬ IsText part t ns))
def rdS (t : ByteArray) (part : Bool) : Obj := .cells #[.string t, .int .i64 0, .slice none 0 0, .bool part, .bool false] 103
theorem sr_new (w : World) (t : ByteArray) (part : Bool) : SrAt (w.alloc (rdS t part)) w.heap.size (w.heap.size + 1) t part 0 (.slice none 0 0) [] false :=
  ⟨BoxL.new w [.string t, .int .i64 0, .slice none 0 0, .bool part, .bool false] 103, World.ownsRow_nil _ _ _ _, Nat.zero_le _, by omega, by simp⟩
theorem sk_low {w W w' : World} (h0 : Below w.heap.size w W) (h : Skept W w' (w.heap.size + 1) w.heap.size) : Below w.heap.size w w' :=
  ⟨h.os.trans h0.os, h.tape.trans h0.tape, h.output.trans h0.output, Nat.le_trans h0.size h.size, fun b hb => (h.block b (by omega) (by omega)).trans (h0.block b hb)⟩
set_option maxRecDepth 100000 in
set_option maxHeartbeats 8000000 in
theorem s_read (part : Bool) (t : ByteArray) (w : World) (ht : t.size ≤ 8000) : Calls Tryz.prog 50 #[.string t, .bool part] w fun e w' => RdS part t w w' e := by
  have HO := hide (sr_one part t ht 11 w.heap.size (w.heap.size + 1) 0 1 (.slice none 0 0) [] false (w.alloc (rdS t part)) rfl (by simp) (sr_new w t part))
  have HSM := hide (one_small part ht)
  obtain ⟨S, hS⟩ : ∃ x, oneS part 11 (stS t 0 [] false) = x := ⟨_, rfl⟩
  rw [hS] at HO HSM
  have HSS := hide hS
  clear hS
  go_enter Tryz.func50, Tryz.ntmps50
  go_wp2_with (first
    | (go_at_call 83; refine HO.out.mono ?_; rintro e w2 ⟨rfl, a9, lv9, l9, b9, rfl, hs9, hk9⟩; obtain ⟨p9, c9, rfl⟩ := owns_shape hs9.row; have HS9 := hide hs9; have HB9 := hide (sk_low (malloc1 _ _) hk9); have d2 := hs9.box.cell 2 _ rfl; have d4 := hs9.box.cell 4 _ rfl; clear hs9 hk9))
  have HRI : Hid (∀ ns, IsText part t ns → l9 = ns ∧ b9 = false ∧ t.toList ≠ [] ∧ textV part l9 = t) := hide (read_is HSS.out)
  cases b9
  · cases hte : (t.toList == [])
    · have HW : Hid (∀ W, Below w2.heap.size w2 W → Calls Tryz.prog 46 #[.slice p9 l9.length c9, .bool part] W fun e w' => e = .returned (.string (textV part l9)) ∧ Below W.heap.size W w') := hide (fun W hb => s_whole part l9 _ W (HSM.out.f rfl) (own_slat (HS9.out.row.below hb) (by have : l9.length ≤ 42 := HSM.out.n; omega)))
      have HWI : Hid (textV part l9 = t → IsText part t l9) := hide (fun h => whole_is h (by intro e; rw [e] at hte; simp at hte))
      obtain ⟨TV, hTV⟩ : ∃ x, textV part l9 = x := ⟨_, rfl⟩
      rw [hTV] at HW HWI HRI
      clear hTV
      refine wp_region_grown (by kernel_rfl) (by kernel_rfl) (fun W hW => ?_)
      subst hW
      have hne := grown_some W
      have f2 := grown_cell d2
      have f4 := grown_cell d4
      repeat (go_big_quiet_step ((go_at_call 46; exact grown_more (HW.out _ (Grown.bel _)))))
      refine wpQuiet_nil ?_
      intro w3 hw3
      have HB3 := hide hw3
      clear hw3 hne f2 f4
      have HS3 := hide (HS9.out.keep (below_apart HB3.out))
      go_wp2_with fail
      go_ret2
      refine ⟨p9, l9.length, c9, l9, _, rfl, HB9.out.trans (HB3.out.mono HB9.out.size), ?_⟩
      cases hq : (TV.toList == t.toList)
      · exact .inr ⟨rfl, fun ns hn => by have := (HRI.out ns hn).2.2.2; rw [this] at hq; simp at hq⟩
      · exact .inl ⟨rfl, owns_down HS3.out.row (by omega), HWI.out (tl_inj (eq_of_beq hq))⟩
    · go_quiet (fail)
      go_wp2_with fail
      go_ret2
      refine ⟨p9, l9.length, c9, l9, _, rfl, ⟨HB9.out.os, HB9.out.tape, HB9.out.output, HB9.out.size, HB9.out.block⟩, .inr ⟨rfl, fun ns hn => ?_⟩⟩
      have := (HRI.out ns hn).2.2.1
      rw [eq_of_beq hte] at this
      exact this rfl
  · go_quiet (fail)
    go_wp2_with fail
    go_ret2
    refine ⟨p9, l9.length, c9, l9, _, rfl, ⟨HB9.out.os, HB9.out.tape, HB9.out.output, HB9.out.size, HB9.out.block⟩, .inr ⟨rfl, fun ns hn => ?_⟩⟩
    have := (HRI.out ns hn).2.1
    cases this
end Go.Proofs.YtmjlblbhakppfaaGreatDoor
/- PlanRead and PartRead of the specification. -/
namespace Go.Proofs.YtmjlblbhakppfaaGreatDoor
open Go.RowKit
set_option linter.unusedSimpArgs false
set_option linter.unusedVariables false

theorem not_small {part : Bool} {s : ByteArray} {ns : List Nd} (h : IsText part s ns) : s.size ≤ 8000 := by
  have := text_small h.1
  rw [h.2] at this
  omega
theorem is_one {part : Bool} {s : ByteArray} {l ns : List Nd} (h : IsText part s l) (hn : IsText part s ns) : l = ns := by
  have h1 := spec_reads h.1
  have h2 := spec_reads hn.1
  rw [h.2] at h1
  rw [hn.2, h1] at h2
  exact congrArg Ss.l h2
set_option maxRecDepth 100000 in
theorem s_planRead (s : ByteArray) (w : World) (hm : s.size ≤ maxLen) : Calls Tryz.prog 14 #[.string s] w fun e w' => PrAns false s w w' e := by
  unfold maxLen at hm
  by_cases hs : 8000 < s.size
  · go_enter Tryz.func14, Tryz.ntmps14
    go_wp2_with fail
    refine bodyPost_ret (v := .agg #[.slice none 0 0, .int .i64 2]) (by simp [results, Tryz.results14, go_sem]) rfl ?_
    exact ⟨_, [], 2, rfl, World.ownsRow_nil _ _ _ _, malloc1 _ _, ⟨fun _ => ⟨rfl, rfl⟩, fun h => by omega, fun h => by omega⟩⟩
  · have HR := hide (s_read false s (w.alloc outR) (by omega))
    have HO : Hid (BoxL (w.alloc outR) w.heap.size [.slice none 0 0, .int .i64 0]) := hide (BoxL.new w [.slice none 0 0, .int .i64 0] 28)
    go_enter Tryz.func14, Tryz.ntmps14
    go_wp2_with (first
      | (go_at_call 50; refine HR.out.mono ?_; rintro e w2 ⟨a2, n2, c2, L, q2, rfl, hb2, h2⟩; have HB2 := hide hb2; have HO2 := hide (HO.out.keep (below_apart hb2) (by simp)); have b0 := HO2.out.cell 0 _ rfl; have b1 := HO2.out.cell 1 _ rfl; have bz := HO2.out.fz; clear hb2; rcases h2 with ⟨rfl, h2⟩ | ⟨rfl, h2⟩))
    · refine bodyPost_ret (v := .agg #[.slice a2 n2 c2, .int .i64 0]) (by simp [results, Tryz.results14, go_sem, b0, b1]) rfl ?_
      have hb := HB2.out.size
      have ha := apR w2 w.heap.size (.slice a2 n2 c2) (.int .i64 0)
      refine ⟨_, L, 0, rfl, ?_, setR ((malloc1 _ _).trans (HB2.out.mono (by simp))) _ _, ⟨fun h => by omega, fun _ ns hn => ⟨is_one h2.2 hn, rfl⟩, fun _ hno => absurd h2.2 (hno L)⟩⟩
      refine owns_keep (owns_down h2.1 (by simp)) ha (fun b hb hm => ?_)
      have := (owns_fresh h2.1).lo b hb
      simp at this hm
      omega
    · refine bodyPost_ret (v := .agg #[.slice none 0 0, .int .i64 3]) (by simp [results, Tryz.results14, go_sem, b0, b1]) rfl ?_
      exact ⟨_, [], 3, rfl, World.ownsRow_nil _ _ _ _, setR ((malloc1 _ _).trans (HB2.out.mono (by simp))) _ _, ⟨fun h => by omega, fun _ ns hn => absurd hn (h2 ns), fun _ _ => ⟨rfl, rfl⟩⟩⟩
set_option maxRecDepth 100000 in
theorem s_partRead (s : ByteArray) (w : World) (hm : s.size ≤ maxLen) : Calls Tryz.prog 32 #[.string s] w fun e w' => PrAns true s w w' e := by
  unfold maxLen at hm
  by_cases hs : 8000 < s.size
  · go_enter Tryz.func32, Tryz.ntmps32
    go_wp2_with fail
    refine bodyPost_ret (v := .agg #[.slice none 0 0, .int .i64 2]) (by simp [results, Tryz.results32, go_sem]) rfl ?_
    exact ⟨_, [], 2, rfl, World.ownsRow_nil _ _ _ _, malloc1 _ _, ⟨fun _ => ⟨rfl, rfl⟩, fun h => by omega, fun h => by omega⟩⟩
  · have HR := hide (s_read true s (w.alloc outRP) (by omega))
    have HO : Hid (BoxL (w.alloc outRP) w.heap.size [.slice none 0 0, .int .i64 0]) := hide (BoxL.new w [.slice none 0 0, .int .i64 0] 41)
    go_enter Tryz.func32, Tryz.ntmps32
    go_wp2_with (first
      | (go_at_call 50; refine HR.out.mono ?_; rintro e w2 ⟨a2, n2, c2, L, q2, rfl, hb2, h2⟩; have HB2 := hide hb2; have HO2 := hide (HO.out.keep (below_apart hb2) (by simp)); have b0 := HO2.out.cell 0 _ rfl; have b1 := HO2.out.cell 1 _ rfl; have bz := HO2.out.fz; clear hb2; rcases h2 with ⟨rfl, h2⟩ | ⟨rfl, h2⟩))
    · refine bodyPost_ret (v := .agg #[.slice a2 n2 c2, .int .i64 0]) (by simp [results, Tryz.results32, go_sem, b0, b1]) rfl ?_
      have hb := HB2.out.size
      have ha := apR w2 w.heap.size (.slice a2 n2 c2) (.int .i64 0)
      refine ⟨_, L, 0, rfl, ?_, setR ((malloc1 _ _).trans (HB2.out.mono (by simp))) _ _, ⟨fun h => by omega, fun _ ns hn => ⟨is_one h2.2 hn, rfl⟩, fun _ hno => absurd h2.2 (hno L)⟩⟩
      refine owns_keep (owns_down h2.1 (by simp)) ha (fun b hb hm => ?_)
      have := (owns_fresh h2.1).lo b hb
      simp at this hm
      omega
    · refine bodyPost_ret (v := .agg #[.slice none 0 0, .int .i64 3]) (by simp [results, Tryz.results32, go_sem, b0, b1]) rfl ?_
      exact ⟨_, [], 3, rfl, World.ownsRow_nil _ _ _ _, setR ((malloc1 _ _).trans (HB2.out.mono (by simp))) _ _, ⟨fun h => by omega, fun _ ns hn => absurd hn (h2 ns), fun _ _ => ⟨rfl, rfl⟩⟩⟩
end Go.Proofs.YtmjlblbhakppfaaGreatDoor
