/- The first message between two: firstOf, find. -/
import Derived.Test.YtonafcifolddjaaDoorOutI
namespace Go.Proofs.YtonafcifolddjaaDoor
open Go.RowKit
attribute [local go_sem ↓] Go.wp_at_zero Go.wp_at_succ

theorem ends_equal (a b c d : ByteArray) (W : World) : (Op.equalIn 10000 69 (.agg #[.string a, .string b]) (.agg #[.string c, .string d])).run Tryd.prog W = .ok (a.toList == c.toList && b.toList == d.toList) W := by
  by_cases h1 : a.toList = c.toList
  · by_cases h2 : b.toList = d.toList
    all_goals go_simp
  · go_simp
def atI (f t : ByteArray) (l : List RMsg) : Option Nat := l.findIdx? (isMsg f t)
def atN (f t : ByteArray) (l : List RMsg) : Int := match atI f t l with
  | some i => (i : Int)
  | none => -1
def atW (f t : ByteArray) (l : List RMsg) : Why := match atI f t l with
  | some _ => .normal
  | none => .deferred
theorem atI_some {f t : ByteArray} {l : List RMsg} {k : Nat} (hk : k < l.length) (h : isMsg f t l[k] = true) (hb : ∀ j (hj : j < l.length), j < k → isMsg f t l[j] = false) : atI f t l = some k := by
  rw [atI, List.findIdx?_eq_some_iff_getElem]
  exact ⟨hk, h, fun j hj => by simp [hb j (by omega) hj]⟩
theorem atI_none {f t : ByteArray} {l : List RMsg} (hb : ∀ j (hj : j < l.length), isMsg f t l[j] = false) : atI f t l = none := by
  rw [atI, List.findIdx?_eq_none_iff]
  intro x hx
  obtain ⟨j, hj, rfl⟩ := List.getElem_of_mem hx
  exact hb j hj
theorem atI_lt {f t : ByteArray} {l : List RMsg} {k : Nat} (h : atI f t l = some k) : k < l.length := by
  rw [atI, List.findIdx?_eq_some_iff_getElem] at h
  exact h.1
set_option maxRecDepth 100000 in
set_option maxHeartbeats 1000000 in
theorem first_of {E : Errs} (f t : ByteArray) (l : List RMsg) (v : Value) (w : World) (h4 : l.length ≤ 4096) (hv : RMsgSl w w.heap.size v l) (hs : SentAt w E) :
    Calls Tryd.prog 54 #[v, .agg #[.string f, .string t], .func (.func 55) #[] #[]] w fun e w' => e = .returned (.tuple #[.int .i64 (atN f t l), whyV E (atW f t l)]) ∧ Below w.heap.size w w' := by
  have HS := hide hs
  obtain ⟨ao, cap, rfl, hc, hm, hr⟩ := hv
  have HR := hide hr
  clear hr hs
  go_enter Tryd.func54, Tryd.ntmps54
  go_wp2_with fail
  obtain ⟨W1, hW1⟩ : ∃ W1, W1 = w.alloc (.cells #[.string f, .string t] 69) := ⟨_, rfl⟩
  have k0 : W1.cell? ⟨w.heap.size, 0, none⟩ = some (.string f) := by rw [hW1]; simp
  have k1 : W1.cell? ⟨w.heap.size, 1, none⟩ = some (.string t) := by rw [hW1]; simp
  have hsz : w.heap.size < W1.heap.size := by rw [hW1]; simp
  have HB1 : Hid (Below w.heap.size w W1) := hide (by rw [hW1]; exact malloc1 _ _)
  rw [← hW1]
  clear hW1
  go_loopw [12] (fun i wr => ∃ k : Nat, k ≤ l.length ∧ i = .int .i64 k ∧ (∀ j (hj : j < l.length), j < k → isMsg f t l[j] = false) ∧ Below W1.heap.size W1 wr) (fun i _ => l.length - (intOf i).toNat)
  case atStart => exact ⟨0, Nat.zero_le _, rfl, fun j _ h => absurd h (by omega), Below.refl _ _⟩
  case round =>
    obtain ⟨k, hk, rfl, hall, hbel⟩ := hrel
    have HALL := hide hall
    have HBEL := hide hbel
    have HW : Hid (Below w.heap.size w wr) := hide (HB1.out.trans (hbel.mono HB1.out.size))
    have d0 := (hbel.cell (p := ⟨w.heap.size, 0, none⟩) hsz).trans k0
    have d1 := (hbel.cell (p := ⟨w.heap.size, 1, none⟩) hsz).trans k1
    clear hall hbel
    by_cases hlt : k < l.length
    · obtain ⟨b, o, rfl, hbB, hrow⟩ := HR.out (by intro h; simp [h] at hlt)
      have hnode := (hrow.get k hlt).carry hbB HW.out
      obtain ⟨x1, hx1⟩ : ∃ x1, x1 = l[k] := ⟨_, rfl⟩
      have HX1 := hide hx1
      rw [← hx1] at hnode
      obtain ⟨c0, c1, c2, c3⟩ := hnode
      obtain ⟨q, hq⟩ : ∃ q, isMsg f t x1 = q := ⟨_, rfl⟩
      have HQ := hide hq
      have hee : ∀ W, (Op.equalIn 10000 69 (.agg #[.string x1.frm, .string x1.to]) (.agg #[.string f, .string t])).run Tryd.prog W = .ok q W := fun W => by rw [← hq]; exact ends_equal _ _ _ _ W
      clear hx1 hrow hq
      go_wp2_with fail
      refine wp_region_grown (by kernel_rfl) (by kernel_rfl) (fun W hW => ?_)
      have hne := grown_some W
      have hwl : w.heap.size < wr.heap.size := Nat.lt_of_lt_of_le hsz HBEL.out.size
      have f0 := grown_cell (w := W) (b := wr.heap.size) (o := 0) (v := .string x1.frm) (by rw [hW]; simp)
      have f1 := grown_cell (w := W) (b := wr.heap.size) (o := 1) (v := .string x1.to) (by rw [hW]; simp)
      have f2 := grown_cell (w := W) (b := wr.heap.size) (o := 2) (v := .string x1.label) (by rw [hW]; simp)
      have f3 := grown_cell (w := W) (b := wr.heap.size) (o := 3) (v := .int .i64 x1.sort) (by rw [hW]; simp)
      have g0 := grown_cell (w := W) (b := w.heap.size) (o := 0) (v := .string f) (by rw [hW]; exact ((malloc1 wr _).cell (p := ⟨w.heap.size, 0, none⟩) hwl).trans d0)
      have g1 := grown_cell (w := W) (b := w.heap.size) (o := 1) (v := .string t) (by rw [hW]; exact ((malloc1 wr _).cell (p := ⟨w.heap.size, 1, none⟩) hwl).trans d1)
      have HBR : Hid (Below wr.heap.size wr W) := hide (by rw [hW]; exact malloc1 _ _)
      clear hW
      repeat (go_big_quiet_step ((go_at_call 55; exact grown_more (ends_of x1 _))))
      refine wpQuiet_nil ?_
      intro w3 hw3
      have HB3 : Hid (Below wr.heap.size wr w3) := hide (HBR.out.trans (hw3.mono HBR.out.size))
      clear hw3 hne f0 f1 f2 f3 g0 g1 hee
      cases q
      · go_wp2_with fail
        go_roundw
        case rel =>
          refine ⟨k + 1, by omega, by go_num, fun j hj hjk => ?_, HBEL.out.trans (HB3.out.mono HBEL.out.size)⟩
          by_cases e : j = k
          · subst e; rw [← HX1.out]; exact HQ.out
          · exact HALL.out j hj (by omega)
        case measure => simp [intOf]; omega
      · have HAT : Hid (atI f t l = some k) := hide (atI_some hlt (by rw [← HX1.out]; exact HQ.out) HALL.out)
        go_wp2_with fail
        refine bodyPost_ret_by (v := .tuple #[.int .i64 (k : Int), .nilIface]) ?_ rfl ⟨by rw [atN, atW, HAT.out]; rfl, HW.out.trans (HB3.out.mono HW.out.size)⟩
        unfold results
        go_simp
    · have HAT : Hid (atI f t l = none) := hide (atI_none (fun j hj => HALL.out j hj (by omega)))
      have gN := (HS.out.carry HW.out).gN
      go_wp2_with fail
      go_region_with fail
      all_goals
        go_wp2_with fail
        refine bodyPost_ret_by (v := .tuple #[.int .i64 (-1), .iface 92 (.pointer (some E.aN))]) ?_ rfl ⟨by rw [atN, atW, HAT.out]; rfl, HW.out.drew⟩
        unfold results
        go_simp
end Go.Proofs.YtonafcifolddjaaDoor
