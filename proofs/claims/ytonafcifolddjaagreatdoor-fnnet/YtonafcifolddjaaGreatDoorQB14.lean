/- The draws of chapter 6: a message. -/
import Derived.Test.YtonafcifolddjaaGreatDoorQB11
import Derived.Test.YtonafcifolddjaaGreatDoorQB08
import Derived.Test.YtonafcifolddjaaGreatDoorQB13
import Derived.Test.YtonafcifolddjaaGreatDoorQB06
namespace Go.Proofs.YtonafcifolddjaaGreatDoor
open Go.RowKit
set_option linter.unusedSimpArgs false
set_option linter.unusedVariables false
attribute [local go_sem ↓] Go.wp_at_zero Go.wp_at_succ

theorem Src.past {w w' : World} {sb : Nat} {ao : Option Addr} {len cap : Nat} {bs : List Nat} (h : Src w sb ao len cap) (hA : Apart w w' bs) (hb : ∀ b ∈ bs, sb < b) : Src w' sb ao len cap := by
  have hsb : sb ∉ bs := fun hm => by have := hb sb hm; omega
  have hk : w'.heap[sb]? = w.heap[sb]? := hA.block sb h.lt hsb
  obtain ⟨p, hp, c1⟩ := h.c1
  obtain ⟨m, hm, c2⟩ := h.c2
  obtain ⟨k, hk3, c3⟩ := h.c3
  refine ⟨(World.cell?_of_block (a := ⟨sb, 0, none⟩) hk).trans h.c0, ⟨p, hp, (World.cell?_of_block (a := ⟨sb, 1, none⟩) hk).trans c1⟩, ⟨m, hm, (World.cell?_of_block (a := ⟨sb, 2, none⟩) hk).trans c2⟩, ⟨k, hk3, (World.cell?_of_block (a := ⟨sb, 3, none⟩) hk).trans c3⟩, fun j => (World.frozen?_of_block (a := ⟨sb, j, none⟩) hk).trans (h.fr j), fun i hi => ?_⟩
  obtain ⟨b, off, z, e, hbs, hc, hz⟩ := h.row i hi
  exact ⟨b, off, z, e, hbs, hA.cell' hc (fun hm => by have := hb b hm; omega), hz⟩
theorem Apart.newerD {a b c : World} {l l' : List Nat} (h : Apart a b l) (h' : Apart b c l') (hn : ∀ x ∈ l', a.heap.size ≤ x) : Apart a c l := ⟨h'.os.trans h.os, h'.tape.trans h.tape, h'.output.trans h.output, Nat.le_trans h.size h'.size, fun x hx hm => (h'.block x (Nat.lt_of_lt_of_le hx h.size) (fun hm' => by have := hn x hm'; omega)).trans (h.block x hx hm)⟩
/-- what is known of a drawn message -/
def DrMsg (m : RMsg) : Prop := m.frm.size ≤ 20 ∧ m.to.size ≤ 20 ∧ m.label.size ≤ 20
theorem DrMsg.fits {m : RMsg} (h : DrMsg m) : m.ok ∧ m.fit := by
  obtain ⟨h1, h2, h3⟩ := h
  unfold RMsg.ok RMsg.fit maxLen
  omega
def mzO : Obj := .cells #[.string ⟨#[]⟩, .string ⟨#[]⟩, .string ⟨#[]⟩, .int .i64 0] 25
/-- while a message is drawn: the source, and the result's cells -/
structure MgS (w W : World) (sb : Nat) (ao : Option Addr) (len cap : Nat) : Prop where
  src : Src W sb ao len cap
  ap : Apart w W [sb]
  box : BoxL W w.heap.size [.string ⟨#[]⟩, .string ⟨#[]⟩, .string ⟨#[]⟩, .int .i64 0]
theorem mg_start {w : World} {sb : Nat} {ao : Option Addr} {len cap : Nat} (h : Src w sb ao len cap) : MgS w (w.alloc mzO) sb ao len cap :=
  ⟨h.past (below_apart (malloc1 w _)) (by simp), (below_apart (malloc1 w _)).sub (by simp), BoxL.new w _ 25⟩
theorem MgS.alloc {w W : World} {sb : Nat} {ao : Option Addr} {len cap : Nat} (h : MgS w W sb ao len cap) (o : Obj) : MgS w (W.alloc o) sb ao len cap :=
  ⟨h.src.past (below_apart (malloc1 W o)) (by simp), h.ap.then (malloc1 W o), h.box.keep (below_apart (malloc1 W o)) (by simp)⟩
theorem MgS.drawn {w W wn : World} {sb : Nat} {ao : Option Addr} {len cap : Nat} (h : MgS w W sb ao len cap) (hsb : sb < w.heap.size) (hs : Src wn sb ao len cap) (hg : W.grownBy wn (some sb)) : MgS w wn sb ao len cap :=
  ⟨hs, (h.ap.trans (Apart.grown hg)).sub (by simp), h.box.keep (Apart.grown hg) (by simp; omega)⟩
theorem MgS.set {w W : World} {sb : Nat} {ao : Option Addr} {len cap : Nat} (h : MgS w W sb ao len cap) (hsb : sb < w.heap.size) (mb i : Nat) (hm : w.heap.size < mb) (y : Value) : MgS w (W.setCell ⟨mb, i, none⟩ y) sb ao len cap :=
  ⟨h.src.past (setCell_apart W mb i y) (by simp; omega), h.ap.newerD (setCell_apart W mb i y) (by simp; omega), h.box.keep (setCell_apart W mb i y) (by simp; omega)⟩
def mnT : List ByteArray := [⟨#[97]⟩, ⟨#[98]⟩, ⟨#[99]⟩]
def mnO : Obj := .cells #[.string ⟨#[97]⟩, .string ⟨#[98]⟩, .string ⟨#[99]⟩] 9
def mlT : List ByteArray := [⟨#[108]⟩, ⟨#[109]⟩, ⟨#[103, 111]⟩]
def mlO : Obj := .cells #[.string ⟨#[108]⟩, .string ⟨#[109]⟩, .string ⟨#[103, 111]⟩] 9
theorem lit_at (ls : List ByteArray) (W : World) (n k : Nat) (hk : ls.length = k) (h9 : ls.length ≤ 1000) (hn : W.heap.size = n) : TextsAt (W.alloc (.cells (ls.map Value.string).toArray 9)) (.slice (some ⟨n, 0, none⟩) k k) ls := by
  subst hn hk
  exact texts_own (ls := ls) (World.ownsRow_lit (e := 9) (size := 1) (base := W.heap.size) W (ls.map Value.string).toArray ls.length (by simp) (by simp [maxLen]; omega) (by simp)) (by omega)
theorem mn_small {x : ByteArray} (h : x ∈ mnT) : x.size ≤ 20 := by
  simp only [mnT, List.mem_cons, List.not_mem_nil, or_false] at h
  rcases h with rfl | rfl | rfl <;> decide
theorem ml_small {x : ByteArray} (h : x ∈ mlT) : x.size ≤ 20 := by
  simp only [mlT, List.mem_cons, List.not_mem_nil, or_false] at h
  rcases h with rfl | rfl | rfl <;> decide
/-- a message is drawn -/
def MgAns (w w' : World) (e : Ending) (sb : Nat) (ao : Option Addr) (len cap : Nat) : Prop := ∃ m : RMsg, e = .returned m.val ∧ DrMsg m ∧ Src w' sb ao len cap ∧ Apart w w' [sb]
theorem mg_end {w W : World} {sb : Nat} {ao : Option Addr} {len cap : Nat} (m : RMsg) (h : MgS w W sb ao len cap) (hsb : sb < w.heap.size) (hm : DrMsg m) (a b c d : Value) : MgAns w ((((W.setCell ⟨w.heap.size, 0, none⟩ a).setCell ⟨w.heap.size, 1, none⟩ b).setCell ⟨w.heap.size, 2, none⟩ c).setCell ⟨w.heap.size, 3, none⟩ d) (.returned m.val) sb ao len cap := by
  have hA : Apart W ((((W.setCell ⟨w.heap.size, 0, none⟩ a).setCell ⟨w.heap.size, 1, none⟩ b).setCell ⟨w.heap.size, 2, none⟩ c).setCell ⟨w.heap.size, 3, none⟩ d) [w.heap.size] := (((setCell_apart W w.heap.size 0 a).setCell 1 b).setCell 2 c).setCell 3 d
  exact ⟨m, rfl, hm, h.src.past hA (by simp; omega), h.ap.newerD hA (by simp)⟩
set_option maxRecDepth 100000 in
set_option maxHeartbeats 4000000 in
theorem msg_any (sb : Nat) (ao : Option Addr) (len cap : Nat) (w : World) (hl : len ≤ 1048576) (h : Src w sb ao len cap) :
    Calls Tryz.prog 29 #[.pointer (some ⟨sb, 0, none⟩)] w fun e w' => MgAns w w' e sb ao len cap := by
  have hsb := h.lt
  have HG0 := hide (mg_start h)
  have HO : Hid (∀ (m : Int) w1, 1 < m → m ≤ 100 → Src w1 sb ao len cap → Calls Tryz.prog 33 #[.pointer (some ⟨sb, 0, none⟩), .int .i64 m] w1 fun e w' => ∃ b : Bool, e = .returned (.bool b) ∧ Src w' sb ao len cap ∧ w1.grownBy w' (some sb)) := hide (fun m w1 h1 h2 hs => n_one sb ao len cap m w1 h1 (by omega) hl hs)
  have HN : Hid (∀ (m : Int) w1, 1 < m → m ≤ 100 → Src w1 sb ao len cap → Calls Tryz.prog 34 #[.pointer (some ⟨sb, 0, none⟩), .int .i64 m] w1 fun e w' => ∃ r : Int, e = .returned (.int .i64 r) ∧ 0 ≤ r ∧ r < m ∧ Src w' sb ao len cap ∧ w1.grownBy w' (some sb)) := hide (fun m w1 h1 h2 hs => n_any sb ao len cap m w1 h1 (by omega) hl hs)
  clear h
  go_enter Tryz.func29, Tryz.ntmps29
  go_wp2_with (first
    | (go_at_call 35; (fail_if_success (have := HG1)); refine (pick_any sb ao len cap mnT (.slice (some ⟨w.heap.size + 1, 0, none⟩) 3 3) _ hl (by simp [mnT]) (by simp [mnT]) (lit_at mnT (w.alloc mzO) _ 3 rfl (by simp [mnT]) (by simp)) (by simp [vblocks, cellBlocks]; omega) (HG0.out.alloc mnO).src).mono ?_; rintro e w1 ⟨x1, hx1, rfl, hs, hg⟩; have HG1 := hide ((HG0.out.alloc mnO).drawn hsb hs hg); have z1 := HG1.out.ap.size; have HX1 := hide hx1; clear hs hg hx1)
    | (go_at_call 35; have MK1 := HG1; (fail_if_success (have := HG2)); refine (pick_any sb ao len cap mnT (.slice (some ⟨w1.heap.size, 0, none⟩) 3 3) _ hl (by simp [mnT]) (by simp [mnT]) (lit_at mnT w1 _ 3 rfl (by simp [mnT]) rfl) (by simp [vblocks, cellBlocks]; omega) (HG1.out.alloc mnO).src).mono ?_; rintro e w2 ⟨x2, hx2, rfl, hs, hg⟩; have HG2 := hide ((HG1.out.alloc mnO).drawn hsb hs hg); have z2 := HG2.out.ap.size; have HX2 := hide hx2; clear hs hg hx2)
    | (go_at_call 35; have MK2 := HG2; (fail_if_success (have := HG3)); refine (pick_any sb ao len cap mlT (.slice (some ⟨w2.heap.size, 0, none⟩) 3 3) _ hl (by simp [mlT]) (by simp [mlT]) (lit_at mlT w2 _ 3 rfl (by simp [mlT]) rfl) (by simp [vblocks, cellBlocks]; omega) (HG2.out.alloc mlO).src).mono ?_; rintro e w3 ⟨x3, hx3, rfl, hs, hg⟩; have HG3 := hide ((HG2.out.alloc mlO).drawn hsb hs hg); have HX3 := hide hx3; clear hs hg hx3)
    | (go_at_call 34; have MK3 := HG3; (fail_if_success (have := HG4)); refine (HN.out 3 _ (by omega) (by omega) HG3.out.src).mono ?_; rintro e w4 ⟨r4, rfl, h40, h41, hs, hg⟩; have HG4 := hide (HG3.out.drawn hsb hs hg); have z4 := HG4.out.box.lt; clear hs hg)
    | (go_at_call 33; have MK4 := HG4; (fail_if_success (have := HG5)); refine (HO.out 20 _ (by omega) (by omega) (HG4.out.alloc _).src).mono ?_; rintro e w5 ⟨b5, rfl, hs, hg⟩; have HG5 := hide ((HG4.out.alloc _).drawn hsb hs hg); have HB5 := hide ((BoxL.new w4 [.string x1, .string x2, .string x3, .int .i64 r4] 25).keep (Apart.grown hg) (by simp; omega)); have c0 := HB5.out.cell 0 _ rfl; have c1 := HB5.out.cell 1 _ rfl; have c2 := HB5.out.cell 2 _ rfl; have c3 := HB5.out.cell 3 _ rfl; clear hs hg; cases b5)
    | (go_at_call 34; have MK5 := HG5; (fail_if_success (have := HG6)); refine (HN.out 5 _ (by omega) (by omega) HG5.out.src).mono ?_; rintro e w6 ⟨r6, rfl, h60, h61, hs, hg⟩; have HG6 := hide ((HG5.out.drawn hsb hs hg).set hsb w4.heap.size 3 z4 (.int .i64 (r6 - 1))); have HB6 := hide (HB5.out.keep (Apart.grown hg) (by simp; omega)); have c3 := HB6.out.cell 3 _ rfl; have f3 := HB6.out.fz 3; clear hs hg)
    | (go_at_call 33; have MK6 := HG6; (fail_if_success (have := HG7)); refine (HO.out 20 _ (by omega) (by omega) HG6.out.src).mono ?_; rintro e w7 ⟨b7, rfl, hs, hg⟩; have HG7 := hide (HG6.out.drawn hsb hs hg); have HB7 := hide ((HB6.out.set 3 (by simp) (.int .i64 (r6 - 1))).keep (Apart.grown hg) (by simp; omega)); have c0 := HB7.out.cell 0 _ rfl; have c1 := HB7.out.cell 1 _ rfl; have c2 := HB7.out.cell 2 _ rfl; have c3 := HB7.out.cell 3 _ rfl; have f2 := HB7.out.fz 2; have q0 := HG7.out.box.cell 0 _ rfl; have q1 := HG7.out.box.cell 1 _ rfl; have q2 := HG7.out.box.cell 2 _ rfl; have q3 := HG7.out.box.cell 3 _ rfl; have qf := HG7.out.box.fz; clear hs hg; cases b7)
    | (go_at_call 33; have MK5 := HG5; (fail_if_success (have := HG6)); (fail_if_success (have := HG7)); refine (HO.out 20 _ (by omega) (by omega) HG5.out.src).mono ?_; rintro e w7 ⟨b7, rfl, hs, hg⟩; have HG7 := hide (HG5.out.drawn hsb hs hg); have HB7 := hide (HB5.out.keep (Apart.grown hg) (by simp; omega)); have c0 := HB7.out.cell 0 _ rfl; have c1 := HB7.out.cell 1 _ rfl; have c2 := HB7.out.cell 2 _ rfl; have c3 := HB7.out.cell 3 _ rfl; have f2 := HB7.out.fz 2; have q0 := HG7.out.box.cell 0 _ rfl; have q1 := HG7.out.box.cell 1 _ rfl; have q2 := HG7.out.box.cell 2 _ rfl; have q3 := HG7.out.box.cell 3 _ rfl; have qf := HG7.out.box.fz; clear hs hg; cases b7))
  · refine bodyPost_ret (v := RMsg.val ⟨x1, x2, x3, r4⟩) (by simp [results, Tryz.results29, go_sem, q0, q1, q2, q3, RMsg.val]) rfl ?_
    exact mg_end ⟨x1, x2, x3, r4⟩ HG7.out hsb ⟨mn_small HX1.out, mn_small HX2.out, ml_small HX3.out⟩ _ _ _ _
  · refine bodyPost_ret (v := RMsg.val ⟨x1, x2, ⟨#[65]⟩, r4⟩) (by simp [results, Tryz.results29, go_sem, q0, q1, q2, q3, RMsg.val]) rfl ?_
    exact mg_end ⟨x1, x2, ⟨#[65]⟩, r4⟩ (HG7.out.set hsb w4.heap.size 2 z4 _) hsb ⟨mn_small HX1.out, mn_small HX2.out, show (⟨#[65]⟩ : ByteArray).size ≤ 20 by decide⟩ _ _ _ _
  · refine bodyPost_ret (v := RMsg.val ⟨x1, x2, x3, (r6 - 1)⟩) (by simp [results, Tryz.results29, go_sem, q0, q1, q2, q3, RMsg.val]) rfl ?_
    exact mg_end ⟨x1, x2, x3, (r6 - 1)⟩ HG7.out hsb ⟨mn_small HX1.out, mn_small HX2.out, ml_small HX3.out⟩ _ _ _ _
  · refine bodyPost_ret (v := RMsg.val ⟨x1, x2, ⟨#[65]⟩, (r6 - 1)⟩) (by simp [results, Tryz.results29, go_sem, q0, q1, q2, q3, RMsg.val]) rfl ?_
    exact mg_end ⟨x1, x2, ⟨#[65]⟩, (r6 - 1)⟩ (HG7.out.set hsb w4.heap.size 2 z4 _) hsb ⟨mn_small HX1.out, mn_small HX2.out, show (⟨#[65]⟩ : ByteArray).size ≤ 20 by decide⟩ _ _ _ _
end Go.Proofs.YtonafcifolddjaaGreatDoor
