/- The first message between two: firstOf, find. -/
import Derived.Test.YtonafcifolddjaaGreatDoorQB24
import Derived.Deep.RegionWith
namespace Go.Proofs.YtonafcifolddjaaGreatDoor
open Go.RowKit
attribute [local go_sem ↓] Go.wp_at_zero Go.wp_at_succ

theorem ends_equal (a b c d : ByteArray) (W : World) : (Op.equalIn 10000 90 (.agg #[.string a, .string b]) (.agg #[.string c, .string d])).run Tryz.prog W = .ok (a.toList == c.toList && b.toList == d.toList) W := by
  by_cases h1 : a.toList = c.toList
  · by_cases h2 : b.toList = d.toList
    all_goals go_simp
  · go_simp
def atI (f t : ByteArray) (l : List RMsg) : Option Nat := l.findIdx? (isMsg f t)
def atN (f t : ByteArray) (l : List RMsg) : Int := match atI f t l with
  | some i => (i : Int)
  | none => -1
def atW (f t : ByteArray) (l : List RMsg) : Why := match atI f t l with
  | some _ => .normal
  | none => .deferred
theorem atI_some {f t : ByteArray} {l : List RMsg} {k : Nat} (hk : k < l.length) (h : isMsg f t l[k] = true) (hb : ∀ j (hj : j < l.length), j < k → isMsg f t l[j] = false) : atI f t l = some k := by
  rw [atI, List.findIdx?_eq_some_iff_getElem]
  exact ⟨hk, h, fun j hj => by simp [hb j (by omega) hj]⟩
theorem atI_none {f t : ByteArray} {l : List RMsg} (hb : ∀ j (hj : j < l.length), isMsg f t l[j] = false) : atI f t l = none := by
  rw [atI, List.findIdx?_eq_none_iff]
  intro x hx
  obtain ⟨j, hj, rfl⟩ := List.getElem_of_mem hx
  exact hb j hj
theorem atI_lt {f t : ByteArray} {l : List RMsg} {k : Nat} (h : atI f t l = some k) : k < l.length := by
  rw [atI, List.findIdx?_eq_some_iff_getElem] at h
  exact h.1
set_option maxRecDepth 100000 in
set_option maxHeartbeats 1000000 in
theorem first_of {E : Errs} (f t : ByteArray) (l : List RMsg) (v : Value) (w : World) (h4 : l.length ≤ 4096) (hv : RMsgSl w w.heap.size v l) (hs : SentAt w E) :
    Calls Tryz.prog 74 #[v, .agg #[.string f, .string t], .func (.func 67) #[] #[]] w fun e w' => e = .returned (.tuple #[.int .i64 (atN f t l), whyV E (atW f t l)]) ∧ Below w.heap.size w w' := by
  have HS := hide hs
  obtain ⟨ao, cap, rfl, hc, hm, hr⟩ := hv
  have HR := hide hr
  clear hr hs
  go_enter Tryz.func74, Tryz.ntmps74
  go_wp2_with fail
  obtain ⟨W1, hW1⟩ : ∃ W1, W1 = w.alloc (.cells #[.string f, .string t] 90) := ⟨_, rfl⟩
  have k0 : W1.cell? ⟨w.heap.size, 0, none⟩ = some (.string f) := by rw [hW1]; simp
  have k1 : W1.cell? ⟨w.heap.size, 1, none⟩ = some (.string t) := by rw [hW1]; simp
  have hsz : w.heap.size < W1.heap.size := by rw [hW1]; simp
  have HB1 : Hid (Below w.heap.size w W1) := hide (by rw [hW1]; exact malloc1 _ _)
  rw [← hW1]
  clear hW1
  go_loopw [12] (fun i wr => ∃ k : Nat, k ≤ l.length ∧ i = .int .i64 k ∧ (∀ j (hj : j < l.length), j < k → isMsg f t l[j] = false) ∧ Below W1.heap.size W1 wr) (fun i _ => l.length - (intOf i).toNat)
  case atStart => exact ⟨0, Nat.zero_le _, rfl, fun j _ h => absurd h (by omega), Below.refl _ _⟩
  case round =>
    obtain ⟨k, hk, rfl, hall, hbel⟩ := hrel
    have HALL := hide hall
    have HBEL := hide hbel
    have HW : Hid (Below w.heap.size w wr) := hide (HB1.out.trans (hbel.mono HB1.out.size))
    have d0 := (hbel.cell (p := ⟨w.heap.size, 0, none⟩) hsz).trans k0
    have d1 := (hbel.cell (p := ⟨w.heap.size, 1, none⟩) hsz).trans k1
    clear hall hbel
    by_cases hlt : k < l.length
    · obtain ⟨b, o, rfl, hbB, hrow⟩ := HR.out (by intro h; simp [h] at hlt)
      have hnode := (hrow.get k hlt).carry hbB HW.out
      obtain ⟨x1, hx1⟩ : ∃ x1, x1 = l[k] := ⟨_, rfl⟩
      have HX1 := hide hx1
      rw [← hx1] at hnode
      obtain ⟨c0, c1, c2, c3⟩ := hnode
      obtain ⟨q, hq⟩ : ∃ q, isMsg f t x1 = q := ⟨_, rfl⟩
      have HQ := hide hq
      have hee : ∀ W, (Op.equalIn 10000 90 (.agg #[.string x1.frm, .string x1.to]) (.agg #[.string f, .string t])).run Tryz.prog W = .ok q W := fun W => by rw [← hq]; exact ends_equal _ _ _ _ W
      clear hx1 hrow hq
      go_wp2_with fail
      refine wp_region_grown (by kernel_rfl) (by kernel_rfl) (fun W hW => ?_)
      have hne := grown_some W
      have hwl : w.heap.size < wr.heap.size := Nat.lt_of_lt_of_le hsz HBEL.out.size
      have f0 := grown_cell (w := W) (b := wr.heap.size) (o := 0) (v := .string x1.frm) (by rw [hW]; simp)
      have f1 := grown_cell (w := W) (b := wr.heap.size) (o := 1) (v := .string x1.to) (by rw [hW]; simp)
      have f2 := grown_cell (w := W) (b := wr.heap.size) (o := 2) (v := .string x1.label) (by rw [hW]; simp)
      have f3 := grown_cell (w := W) (b := wr.heap.size) (o := 3) (v := .int .i64 x1.sort) (by rw [hW]; simp)
      have g0 := grown_cell (w := W) (b := w.heap.size) (o := 0) (v := .string f) (by rw [hW]; exact ((malloc1 wr _).cell (p := ⟨w.heap.size, 0, none⟩) hwl).trans d0)
      have g1 := grown_cell (w := W) (b := w.heap.size) (o := 1) (v := .string t) (by rw [hW]; exact ((malloc1 wr _).cell (p := ⟨w.heap.size, 1, none⟩) hwl).trans d1)
      have HBR : Hid (Below wr.heap.size wr W) := hide (by rw [hW]; exact malloc1 _ _)
      clear hW
      repeat (go_big_quiet_step ((go_at_call 67; exact grown_more (ends_of x1 _))))
      refine wpQuiet_nil ?_
      intro w3 hw3
      have HB3 : Hid (Below wr.heap.size wr w3) := hide (HBR.out.trans (hw3.mono HBR.out.size))
      clear hw3 hne f0 f1 f2 f3 g0 g1 hee
      cases q
      · go_wp2_with fail
        go_roundw
        case rel =>
          refine ⟨k + 1, by omega, by go_num, fun j hj hjk => ?_, HBEL.out.trans (HB3.out.mono HBEL.out.size)⟩
          by_cases e : j = k
          · subst e; rw [← HX1.out]; exact HQ.out
          · exact HALL.out j hj (by omega)
        case measure => simp [intOf]; omega
      · have HAT : Hid (atI f t l = some k) := hide (atI_some hlt (by rw [← HX1.out]; exact HQ.out) HALL.out)
        go_wp2_with fail
        refine bodyPost_ret_by (v := .tuple #[.int .i64 (k : Int), .nilIface]) ?_ rfl ⟨by rw [atN, atW, HAT.out]; rfl, HW.out.trans (HB3.out.mono HW.out.size)⟩
        unfold results
        go_simp
    · have HAT : Hid (atI f t l = none) := hide (atI_none (fun j hj => HALL.out j hj (by omega)))
      have gN := (HS.out.carry HW.out).gN
      go_wp2_with fail
      go_region_with fail
      all_goals
        go_wp2_with fail
        refine bodyPost_ret_by (v := .tuple #[.int .i64 (-1), .iface 136 (.pointer (some E.aN))]) ?_ rfl ⟨by rw [atN, atW, HAT.out]; rfl, HW.out.drew⟩
        unfold results
        go_simp
end Go.Proofs.YtonafcifolddjaaGreatDoor
/- find: where the first message between two is, or why not. -/
namespace Go.Proofs.YtonafcifolddjaaGreatDoor
open Go.RowKit
attribute [local go_sem ↓] Go.wp_at_zero Go.wp_at_succ

def findW (l : List RMsg) (f t : ByteArray) : Why := if 8000 < f.size ∨ 8000 < t.size then .wrapped else match refuseW l (nameB f && nameB t) with
  | .normal => atW f t l
  | y => y
def findN (l : List RMsg) (f t : ByteArray) : Int := match findW l f t with
  | .normal => atN f t l
  | _ => -1
theorem findN_at {l : List RMsg} {f t : ByteArray} (h1 : ¬ (8000 < f.size ∨ 8000 < t.size)) (h2 : refuseW l (nameB f && nameB t) = .normal) : findW l f t = atW f t l ∧ findN l f t = atN f t l := by
  have hW : findW l f t = atW f t l := by rw [findW, if_neg h1, h2]
  refine ⟨hW, ?_⟩
  rw [findN, hW, atW, atN]
  cases h : atI f t l <;> rfl
theorem refuse_net {l : List RMsg} {o : Bool} (h : refuseW l o = .normal) : l.length ≤ 400 ∧ o = true ∧ netB l = true := by
  unfold refuseW at h
  split at h
  · cases h
  · rename_i h4
    split at h
    · rename_i h5
      simp only [Bool.and_eq_true] at h5
      exact ⟨by omega, h5.1, h5.2⟩
    · cases h
set_option maxRecDepth 100000 in
set_option maxHeartbeats 1000000 in
theorem i_find {E : Errs} (f t : ByteArray) (l : List RMsg) (v : Value) (w : World) (hf : f.size ≤ maxLen) (ht : t.size ≤ maxLen) (hok : ∀ m ∈ l, m.ok) (hv : RMsgSl w w.heap.size v l) (hs : SentAt w E) :
    Calls Tryz.prog 36 #[v, .string f, .string t] w fun e w' => e = .returned (.tuple #[.int .i64 (findN l f t), whyV E (findW l f t)]) ∧ Below w.heap.size w w' := by
  have HS := hide hs
  have HOK := hide hok
  have HV := hide hv
  have HF := hide hf
  have HT := hide ht
  have gL := hs.gL
  obtain ⟨ao, cap, rfl, hc, hm, hr⟩ := hv
  clear hr hs hok
  unfold maxLen at hf ht
  by_cases h8 : 8000 < f.size ∨ 8000 < t.size
  · have HR : Hid (findW l f t = .wrapped ∧ findN l f t = -1) := hide (by
      have : findW l f t = .wrapped := by rw [findW, if_pos h8]
      exact ⟨this, by rw [findN, this]⟩)
    by_cases h8f : 8000 < f.size
    · clear h8
      go_enter Tryz.func36, Tryz.ntmps36
      go_wp2_with fail
      go_region_with fail
      all_goals
        go_wp2_with fail
        refine bodyPost_ret_by (v := .tuple #[.int .i64 (-1), .iface 136 (.pointer (some E.aL))]) ?_ rfl ⟨by rw [HR.out.1, HR.out.2]; rfl, (Below.refl _ _).drew⟩
        unfold results
        go_simp
    · have h8t : 8000 < t.size := by omega
      clear h8
      go_enter Tryz.func36, Tryz.ntmps36
      go_wp2_with fail
      go_region_with fail
      all_goals
        go_wp2_with fail
        refine bodyPost_ret_by (v := .tuple #[.int .i64 (-1), .iface 136 (.pointer (some E.aL))]) ?_ rfl ⟨by rw [HR.out.1, HR.out.2]; rfl, (Below.refl _ _).drew⟩
        unfold results
        go_simp
  · obtain ⟨qf, hqf⟩ : ∃ q, nameB f = q := ⟨_, rfl⟩
    obtain ⟨qt, hqt⟩ : ∃ q, nameB t = q := ⟨_, rfl⟩
    obtain ⟨y, hy⟩ : ∃ y, refuseW l (qf && qt) = y := ⟨_, rfl⟩
    have HQF := hide hqf
    have HQT := hide hqt
    have HY := hide hy
    have HFI : Hid (y = .normal → findW l f t = atW f t l ∧ findN l f t = atN f t l) := hide (fun e => findN_at h8 (by rw [hqf, hqt, hy, e]))
    have HNO : Hid (y ≠ .normal → findW l f t = y ∧ findN l f t = -1) := hide (fun e => by
      have : findW l f t = y := by
        rw [findW, if_neg h8, hqf, hqt, hy]
        cases y <;> first | exact absurd rfl e | rfl
      refine ⟨this, ?_⟩
      rw [findN, this]
      cases y <;> first | exact absurd rfl e | rfl)
    have h8f : ¬ 8000 < f.size := by omega
    have h8t : ¬ 8000 < t.size := by omega
    clear hqf hqt hy h8
    by_cases hyf : y = .normal
    · subst hyf
      obtain ⟨hl4, hqq, -⟩ := refuse_net HY.out
      obtain ⟨rfl, rfl⟩ : qf = true ∧ qt = true := by simpa using hqq
      have HFI' := hide (HFI.out rfl)
      clear HNO HFI hqq
      go_enter Tryz.func36, Tryz.ntmps36
      go_wp2_with (first
        | (go_at_call_of 69 f; refine (in_name HQF.out HF.out _).mono ?_; rintro e w' ⟨rfl, rfl⟩)
        | (go_at_call_of 69 t; refine (in_name HQT.out HT.out _).mono ?_; rintro e w' ⟨rfl, rfl⟩)
        | (go_at_call 30; refine (i_refuse (E := E) HY.out _ _ HOK.out HV.out HS.out).mono ?_; rintro e w1 ⟨he, hb1⟩; rw [show whyV E .normal = Value.nilIface from rfl] at he; subst he; have HB1 := hide hb1; clear hb1)
        | (go_at_call 74; refine (first_of (E := E) f t l _ _ (by omega) ((HV.out.carry HB1.out).up HB1.out.size) (HS.out.carry HB1.out)).mono ?_; rintro e w2 ⟨rfl, hb2⟩; have HB2 := hide (HB1.out.trans (hb2.mono HB1.out.size)); clear hb2))
      refine bodyPost_ret_by (v := .tuple #[.int .i64 (atN f t l), whyV E (atW f t l)]) ?_ rfl ⟨by rw [HFI'.out.1, HFI'.out.2], HB2.out⟩
      unfold results
      go_simp
    · have HNO' := hide (HNO.out hyf)
      obtain ⟨a, ha⟩ : ∃ a, whyV E y = .iface 136 (.pointer (some a)) := by cases y <;> first | exact absurd rfl hyf | exact ⟨_, rfl⟩
      have HA := hide ha
      clear HNO HFI ha
      cases qf
      · go_enter Tryz.func36, Tryz.ntmps36
        go_wp2_with (first
          | (go_at_call_of 69 f; refine (in_name HQF.out HF.out _).mono ?_; rintro e w' ⟨rfl, rfl⟩)
          | (go_at_call 30; refine (i_refuse (E := E) HY.out _ _ HOK.out HV.out HS.out).mono ?_; rintro e w1 ⟨he, hb1⟩; rw [HA.out] at he; subst he; have HB1 := hide hb1; clear hb1))
        refine bodyPost_ret_by (v := .tuple #[.int .i64 (-1), .iface 136 (.pointer (some a))]) ?_ rfl ⟨by rw [HNO'.out.1, HNO'.out.2, HA.out], HB1.out⟩
        unfold results
        go_simp
      · go_enter Tryz.func36, Tryz.ntmps36
        go_wp2_with (first
          | (go_at_call_of 69 f; refine (in_name HQF.out HF.out _).mono ?_; rintro e w' ⟨rfl, rfl⟩)
          | (go_at_call_of 69 t; refine (in_name HQT.out HT.out _).mono ?_; rintro e w' ⟨rfl, rfl⟩)
          | (go_at_call 30; refine (i_refuse (E := E) HY.out _ _ HOK.out HV.out HS.out).mono ?_; rintro e w1 ⟨he, hb1⟩; rw [HA.out] at he; subst he; have HB1 := hide hb1; clear hb1))
        refine bodyPost_ret_by (v := .tuple #[.int .i64 (-1), .iface 136 (.pointer (some a))]) ?_ rfl ⟨by rw [HNO'.out.1, HNO'.out.2, HA.out], HB1.out⟩
        unfold results
        go_simp
end Go.Proofs.YtonafcifolddjaaGreatDoor
/- NetSee of the program. -/
namespace Go.Proofs.YtonafcifolddjaaGreatDoor
open Go.RowKit
attribute [local go_sem ↓] Go.wp_at_zero Go.wp_at_succ

def pickL (took : Bool) (l : List RMsg) (f t : ByteArray) : List RMsg := match findW l f t, atI f t l with
  | .normal, some k => if took then l.eraseIdx k else l
  | _, _ => []
def pickM (l : List RMsg) (f t : ByteArray) : RMsg := match findW l f t, atI f t l with
  | .normal, some k => l.getD k noMsg
  | _, _ => noMsg
theorem pickL_len (took : Bool) (l : List RMsg) (f t : ByteArray) : (pickL took l f t).length ≤ l.length := by
  unfold pickL
  split
  · split
    · rw [List.length_eraseIdx]; split <;> omega
    · exact Nat.le_refl _
  · exact Nat.zero_le _
theorem pick_no {l : List RMsg} {f t : ByteArray} (took : Bool) (h : findW l f t ≠ .normal) : pickL took l f t = [] ∧ pickM l f t = noMsg := by
  unfold pickL pickM
  generalize findW l f t = y at *
  cases y <;> first | exact absurd rfl h | exact ⟨rfl, rfl⟩
theorem find_fine {l : List RMsg} {f t : ByteArray} (h : findW l f t = .normal) : ∃ k, atI f t l = some k ∧ k < l.length ∧ findN l f t = (k : Int) ∧ netB l = true := by
  have h1 : ¬ (8000 < f.size ∨ 8000 < t.size) := fun e => by rw [findW, if_pos e] at h; cases h
  have h2 : refuseW l (nameB f && nameB t) = .normal := by
    rw [findW, if_neg h1] at h
    generalize refuseW l (nameB f && nameB t) = y at *
    cases y <;> first | rfl | exact h
  obtain ⟨hW, hN⟩ := findN_at h1 h2
  rw [hW, atW] at h
  cases hk : atI f t l with
  | none => rw [hk] at h; cases h
  | some k => exact ⟨k, rfl, atI_lt hk, by rw [hN, atN, hk], (refuse_net h2).2.2⟩
theorem pick_yes {l : List RMsg} {f t : ByteArray} {k : Nat} (took : Bool) (h : findW l f t = .normal) (hk : atI f t l = some k) : pickL took l f t = (if took then l.eraseIdx k else l) ∧ pickM l f t = l.getD k noMsg := by
  unfold pickL pickM
  rw [h, hk]
  exact ⟨rfl, rfl⟩
def outZ : Obj := .cells #[.slice none 0 0, .string ⟨#[]⟩, .string ⟨#[]⟩, .string ⟨#[]⟩, .int .i64 0, .int .i64 0] 29
/-- the result's cells stay till they are written -/
theorem out_cells {w W : World} (h : Below (w.heap.size + 1) (w.alloc outZ) W) :
    (W.cell? ⟨w.heap.size, 0, none⟩ = some (.slice none 0 0) ∧ W.cell? ⟨w.heap.size, 1, none⟩ = some (.string ⟨#[]⟩) ∧ W.cell? ⟨w.heap.size, 2, none⟩ = some (.string ⟨#[]⟩) ∧ W.cell? ⟨w.heap.size, 3, none⟩ = some (.string ⟨#[]⟩) ∧ W.cell? ⟨w.heap.size, 4, none⟩ = some (.int .i64 0) ∧ W.cell? ⟨w.heap.size, 5, none⟩ = some (.int .i64 0)) ∧ (∀ o, W.frozen? ⟨w.heap.size, o, none⟩ = false) ∧ Below w.heap.size w W := by
  unfold outZ at h
  refine ⟨⟨?_, ?_, ?_, ?_, ?_, ?_⟩, fun o => ?_, (malloc1 _ _).trans (h.mono (by simp))⟩
  · exact (h.cell (p := ⟨w.heap.size, 0, none⟩) (by simp)).trans (by simp)
  · exact (h.cell (p := ⟨w.heap.size, 1, none⟩) (by simp)).trans (by simp)
  · exact (h.cell (p := ⟨w.heap.size, 2, none⟩) (by simp)).trans (by simp)
  · exact (h.cell (p := ⟨w.heap.size, 3, none⟩) (by simp)).trans (by simp)
  · exact (h.cell (p := ⟨w.heap.size, 4, none⟩) (by simp)).trans (by simp)
  · exact (h.cell (p := ⟨w.heap.size, 5, none⟩) (by simp)).trans (by simp)
  · exact (h.frozen (p := ⟨w.heap.size, o, none⟩) (by simp)).trans (by simp)
/-- the end of a function that answers so -/
theorem ans_end {w w3 W : World} {sv : Value} {l : List RMsg} {m : RMsg} {c : Int} {B : Nat} (h : Below (w.heap.size + 1) (w.alloc outZ) w3) (hB : w.heap.size < B) (ho : RMsgOwn w3 B sv l) (hW : W = putOut w3 w.heap.size sv m c) :
    (W.cell? ⟨w.heap.size, 0, none⟩ = some sv ∧ W.cell? ⟨w.heap.size, 1, none⟩ = some (.string m.frm) ∧ W.cell? ⟨w.heap.size, 2, none⟩ = some (.string m.to) ∧ W.cell? ⟨w.heap.size, 3, none⟩ = some (.string m.label) ∧ W.cell? ⟨w.heap.size, 4, none⟩ = some (.int .i64 m.sort) ∧ W.cell? ⟨w.heap.size, 5, none⟩ = some (.int .i64 c)) ∧ RMsgOwn W w.heap.size sv l ∧ Below w.heap.size w W := by
  obtain ⟨⟨d0, d1, d2, d3, d4, d5⟩, -, hb⟩ := out_cells h
  rw [hW]
  refine ⟨putOut_at _ _ _ _ _ (fun i hi => ?_), ans_put m c hb (Nat.le_refl _) hB ho⟩
  rcases i with _ | _ | _ | _ | _ | _ | i
  all_goals first | exact ⟨_, d0⟩ | exact ⟨_, d1⟩ | exact ⟨_, d2⟩ | exact ⟨_, d3⟩ | exact ⟨_, d4⟩ | exact ⟨_, d5⟩ | omega
set_option maxRecDepth 100000 in
set_option maxHeartbeats 1000000 in
theorem i_see {E : Errs} (f t : ByteArray) (l : List RMsg) (v : Value) (w : World) (hf : f.size ≤ maxLen) (ht : t.size ≤ maxLen) (hok : ∀ m ∈ l, m.ok ∧ m.fit) (hv : RMsgSl w w.heap.size v l) (hs : SentAt w E) :
    Calls Tryz.prog 7 #[v, .string f, .string t] w fun e w' => NetAns w w' e (pickL false l f t) (pickM l f t) (findW l f t).code := by
  have HS := hide hs
  have HOK := hide (fun m hm => (hok m hm).1)
  have HFIT := hide (fun m hm => (hok m hm).2)
  have HV := hide hv
  have HF := hide hf
  have HT := hide ht
  obtain ⟨ao, cap, rfl, hc, hm, hr⟩ := hv
  have HR := hide hr
  clear hr hs hok
  obtain ⟨y, hy⟩ : ∃ y, findW l f t = y := ⟨_, rfl⟩
  have HY := hide hy
  by_cases hyf : y = .normal
  · subst hyf
    obtain ⟨k, hk, hkl, hkn, hnet⟩ := find_fine hy
    obtain ⟨p1, p2⟩ := pick_yes false hy hk
    rw [p1, p2, hy]
    have h36 := net_len hnet
    obtain ⟨b, o, rfl, hbB, hrow⟩ := HR.out (by intro h; simp [h] at hkl)
    have hnode := hrow.get k hkl
    have HND : Hid (∀ W, Below w.heap.size w W → RMsgAt W b (o + k * 4) l[k]) := hide (fun W hb => hnode.carry hbB hb)
    have HX : Hid (l.getD k noMsg = l[k]) := hide (by rw [List.getD_eq_getElem?_getD, List.getElem?_eq_getElem hkl]; rfl)
    rw [HX.out]
    obtain ⟨x1, hx1⟩ : ∃ x1, x1 = l[k] := ⟨_, rfl⟩
    rw [← hx1] at HND ⊢
    have HFX := hide (HFIT.out x1 (by rw [hx1]; exact List.getElem_mem hkl))
    have HFN := hide hkn
    clear hx1 hnode hrow hnet p1 p2 hk HX hkn hy
    go_enter Tryz.func7, Tryz.ntmps7
    go_wp2_with (go_at_call 36; refine (i_find (E := E) f t l _ _ HF.out HT.out HOK.out ((HV.out.carry (malloc1 _ _)).up (malloc1 _ _).size) (HS.out.carry (malloc1 _ _))).mono ?_; rintro e w1 ⟨he, hb1⟩; rw [HY.out, HFN.out, show whyV E .normal = Value.nilIface from rfl] at he; subst he; have HB1 : Hid (Below (w.heap.size + 1) (w.alloc outZ) w1) := hide (by have := hb1; simpa [outZ] using this); clear hb1)
    have HBW := hide (out_cells HB1.out).2.2
    obtain ⟨c0, c1, c2, c3⟩ := HND.out _ HBW.out
    go_region_with (first
      | (go_at_call 37; refine (own_net l _ _ (by omega) HFIT.out ((HV.out.carry HBW.out.drew).up HBW.out.drew.size)).mono ?_; rintro e w2 ⟨v2, rfl, ho2, hb2⟩; have HO2 := hide ho2; have HB2 : Hid (Below (w.heap.size + 1) (w.alloc outZ) w2) := hide (HB1.out.drew.trans (hb2.mono (by have := HB1.out.size; simp at this; exact this))); have HBW2 : Hid (Below w.heap.size w w2) := hide (HBW.out.drew.trans (hb2.mono HBW.out.drew.size)); obtain ⟨pa, pc, rfl⟩ := owns_shape ho2; obtain ⟨d0, d1, d2, d3⟩ := HND.out _ HBW2.out; clear ho2 hb2)
      | (go_at_call 38; refine (own_msg x1 _ HFX.out).mono ?_; rintro e w3 ⟨rfl, hb3⟩; have HB3 : Hid (Below (w.heap.size + 1) (w.alloc outZ) w3) := hide (HB2.out.trans (hb3.mono (by have := HB2.out.size; simp at this; exact this))); have HO3 := hide (HO2.out.below hb3); obtain ⟨⟨e0, e1, e2, e3, e4, e5⟩, ez, -⟩ := out_cells HB3.out; have z0 := ez 0; have z1 := ez 1; have z2 := ez 2; have z3 := ez 3; have z4 := ez 4; have z5 := ez 5; clear hb3 ez; unfold RMsg.val))
    all_goals
      obtain ⟨W4, hW4⟩ : ∃ W4, W4 = ((((((w3.setCell ⟨w.heap.size, 0, none⟩ (.slice pa l.length pc)).setCell ⟨w.heap.size, 1, none⟩ (.string x1.frm)).setCell ⟨w.heap.size, 2, none⟩ (.string x1.to)).setCell ⟨w.heap.size, 3, none⟩ (.string x1.label)).setCell ⟨w.heap.size, 4, none⟩ (.int .i64 x1.sort)).setCell ⟨w.heap.size, 5, none⟩ (.int .i64 0)) := ⟨_, rfl⟩
      rw [← hW4]
      have hE := ans_end (m := x1) (c := 0) HB3.out (show w.heap.size < w1.heap.size by have := HB1.out.size; simp at this; omega) HO3.out hW4
      obtain ⟨⟨r0, r1, r2, r3, r4, r5⟩, hE1, hE2⟩ := hE
      clear hW4 e0 e1 e2 e3 e4 e5 z0 z1 z2 z3 z4 z5 d0 d1 d2 d3 c0 c1 c2 c3
      go_wp2_with fail
      refine bodyPost_ret_by (v := netV (.slice pa l.length pc) x1 0) ?_ rfl ⟨_, rfl, hE1, hE2⟩
      unfold netV
      unfold results
      go_simp
  · obtain ⟨p1, p2⟩ := pick_no false (show findW l f t ≠ .normal by rw [hy]; exact hyf)
    rw [p1, p2, hy]
    obtain ⟨a, ha⟩ : ∃ a, whyV E y = .iface 136 (.pointer (some a)) := by cases y <;> first | exact absurd rfl hyf | exact ⟨_, rfl⟩
    have HA := hide ha
    have HYF := hide hyf
    obtain ⟨cd, hcd⟩ : ∃ cd, y.code = cd := ⟨_, rfl⟩
    have HCD := hide hcd
    rw [hcd]
    obtain ⟨fn, hfn⟩ : ∃ fn, findN l f t = fn := ⟨_, rfl⟩
    have HFN := hide hfn
    clear p1 p2 ha hcd hfn hy hyf
    go_enter Tryz.func7, Tryz.ntmps7
    go_wp2_with (first
      | (go_at_call 36; refine (i_find (E := E) f t l _ _ HF.out HT.out HOK.out ((HV.out.carry (malloc1 _ _)).up (malloc1 _ _).size) (HS.out.carry (malloc1 _ _))).mono ?_; rintro e w1 ⟨he, hb1⟩; rw [HY.out, HFN.out, HA.out] at he; subst he; have HB1 : Hid (Below (w.heap.size + 1) (w.alloc outZ) w1) := hide (by have := hb1; simpa [outZ] using this); clear hb1)
      | (go_at_call 31; have hno := net_out_why (E := E) y HYF.out none 0 0 w1 (HS.out.carry (out_cells HB1.out).2.2); rw [HA.out, HCD.out] at hno; refine hno.mono ?_; rintro e w2 ⟨v2, rfl, ho2, hb2⟩; have HB2 : Hid (Below (w.heap.size + 1) (w.alloc outZ) w2) := hide (HB1.out.trans (hb2.mono (by have := HB1.out.size; simp at this; exact this))); have HO2 := hide ho2; obtain ⟨pa, pc, rfl⟩ := owns_shape ho2; obtain ⟨⟨e0, e1, e2, e3, e4, e5⟩, ez, -⟩ := out_cells HB2.out; have z0 := ez 0; have z1 := ez 1; have z2 := ez 2; have z3 := ez 3; have z4 := ez 4; have z5 := ez 5; clear hb2 ez ho2 hno; unfold netV noMsg))
    obtain ⟨W4, hW4⟩ : ∃ W4, W4 = ((((((w2.setCell ⟨w.heap.size, 0, none⟩ (.slice pa 0 pc)).setCell ⟨w.heap.size, 1, none⟩ (.string ByteArray.empty)).setCell ⟨w.heap.size, 2, none⟩ (.string ByteArray.empty)).setCell ⟨w.heap.size, 3, none⟩ (.string ByteArray.empty)).setCell ⟨w.heap.size, 4, none⟩ (.int .i64 0)).setCell ⟨w.heap.size, 5, none⟩ (.int .i64 cd)) := ⟨_, rfl⟩
    rw [← hW4]
    have hE := ans_end (m := noMsg) (c := cd) HB2.out (show w.heap.size < w1.heap.size by have := HB1.out.size; simp at this; omega) HO2.out hW4
    obtain ⟨⟨r0, r1, r2, r3, r4, r5⟩, hE1, hE2⟩ := hE
    clear hW4 e0 e1 e2 e3 e4 e5 z0 z1 z2 z3 z4 z5
    refine bodyPost_ret_by (v := netV (.slice pa 0 pc) noMsg cd) ?_ rfl ⟨_, rfl, hE1, hE2⟩
    unfold netV noMsg
    unfold noMsg at r1 r2 r3 r4
    simp only [List.length_nil] at r0 r1 r2 r3 r4
    unfold results
    go_simp
end Go.Proofs.YtonafcifolddjaaGreatDoor
