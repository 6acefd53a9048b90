/- NetRight of the specification. -/
import Derived.Test.YtonafcifolddjaaGreatDoorQB15
import Derived.Test.YtonafcifolddjaaGreatDoorQB01
import Derived.Test.YtonafcifolddjaaGreatDoorRows
import Derived.Test.YtonafcifolddjaaGreatDoorQB00
import Derived.Test.YtonafcifolddjaaGreatDoorQB16
import Derived.Test.YtonafcifolddjaaGreatDoorQB12
namespace Go.Proofs.YtonafcifolddjaaGreatDoor
open Go.RowKit

set_option maxHeartbeats 1000000 in
theorem s_count (l : List RMsg) (f t : ByteArray) (v : Value) (w : World) (h36 : l.length ≤ 4096) (hv : RMsgSl w w.heap.size v l) :
    Calls Tryz.prog 68 #[v, .string f, .string t] w fun e w' => e = .returned (.int .i64 (cntM f t l : Nat)) ∧ Below w.heap.size w w' := by
  obtain ⟨ao, cap, rfl, hc, hm, hr⟩ := hv
  have HR := hide hr
  clear hr
  have HCT := hide (show cntM f t l = cntM f t (l.take l.length) by rw [List.take_length])
  go_enter Tryz.func68, Tryz.ntmps68
  go_wp2_with fail
  go_loopw [7, 8] (fun n i wr => ∃ k : Nat, k ≤ l.length ∧ i = .int .i64 k ∧ n = .int .i64 (cntM f t (l.take k) : Nat) ∧ Below w.heap.size w wr) (fun _ i _ => l.length - (intOf i).toNat)
  case atStart => exact ⟨0, Nat.zero_le _, rfl, rfl, Below.refl _ _⟩
  case round =>
    obtain ⟨k, hk, rfl, rfl, hbel⟩ := hrel
    have HBEL := hide hbel
    have hcl : cntM f t (l.take k) ≤ 4096 := Nat.le_trans (cntM_le f t _) (by rw [List.length_take]; omega)
    clear hbel
    by_cases hlt : k < l.length
    · obtain ⟨b, o, rfl, hbB, hrow⟩ := HR.out (by intro h; simp [h] at hlt)
      have hnode := (hrow.get k hlt).carry hbB HBEL.out
      have HSU := hide (cntM_succ f t hlt)
      obtain ⟨x1, hx1⟩ : ∃ x1, x1 = l[k] := ⟨_, rfl⟩
      rw [← hx1] at hnode HSU
      obtain ⟨c0, c1, c2, c3⟩ := hnode
      obtain ⟨p, hp⟩ : ∃ p, (x1.frm.toList == f.toList) = p := ⟨_, rfl⟩
      obtain ⟨q, hq⟩ : ∃ q, (x1.to.toList == t.toList) = q := ⟨_, rfl⟩
      have HI : Hid (isMsg f t x1 = (p && q)) := hide (by rw [isMsg, hp, hq])
      obtain ⟨c, hcc⟩ : ∃ c, cntM f t (l.take k) = c := ⟨_, rfl⟩
      rw [hcc] at hcl HSU ⊢
      clear hx1 hrow hcc
      cases p
      all_goals cases q
      all_goals
        go_wp2_with fail
        go_roundw
        case rel => exact ⟨k + 1, by omega, by go_num, by rw [HSU.out, HI.out]; first | rfl | go_num, by first | exact HBEL.out | exact HBEL.out.drew⟩
        case measure => simp [intOf]; omega
    · have hkl : k = l.length := by omega
      subst hkl
      go_wp2_with fail
      go_ret
      exact ⟨ret_int (by rw [HCT.out]), HBEL.out⟩
theorem s_count_at {c : Nat} {l : List RMsg} {f t : ByteArray} (hc : cntM f t l = c) (v : Value) (w : World) (h36 : l.length ≤ 4096) (hv : RMsgSl w w.heap.size v l) :
    Calls Tryz.prog 68 #[v, .string f, .string t] w fun e w' => e = .returned (.int .i64 (c : Nat)) ∧ Below w.heap.size w w' := by subst hc; exact s_count l f t v w h36 hv

set_option maxHeartbeats 1000000 in
theorem s_net {q : Bool} {l : List RMsg} (hq : netB l = q) (v : Value) (w : World) (hok : ∀ m ∈ l, m.ok) (hv : RMsgSl w w.heap.size v l) :
    Calls Tryz.prog 23 #[v] w fun e w' => e = .returned (.bool q) ∧ Below w.heap.size w w' := by
  have HQ := hide hq
  have HOK := hide hok
  have HV : Hid (∀ W, Below w.heap.size w W → RMsgSl W W.heap.size v l) := hide (fun W hb => (hv.carry hb).up hb.size)
  have hlm := hv.lenm
  obtain ⟨ao, cap, rfl, hc, hm, hr⟩ := hv
  have HR := hide hr
  clear hr hq hok
  by_cases h36 : 36 < l.length
  · go_enter Tryz.func23, Tryz.ntmps23
    go_wp2_with fail
    go_ret
    exact ⟨ret_bool (by rw [← HQ.out]; exact net_long h36), Below.refl _ _⟩
  · go_enter Tryz.func23, Tryz.ntmps23
    go_wp2_with fail
    go_loopw [3] (fun i wr => ∃ k : Nat, k ≤ l.length ∧ i = .int .i64 k ∧ (∀ j (h : j < l.length), j < k → msgB l[j] = true ∧ cntM l[j].frm l[j].to l ≤ 3) ∧ Below w.heap.size w wr) (fun i _ => l.length - (intOf i).toNat)
    case atStart => exact ⟨0, Nat.zero_le _, rfl, fun j _ h => absurd h (by omega), Below.refl _ _⟩
    case round =>
      obtain ⟨k, hk, rfl, hall, hbel⟩ := hrel
      have HBEL := hide hbel
      have HALL := hide hall
      clear hbel hall
      by_cases hlt : k < l.length
      · obtain ⟨b, o, rfl, hbB, hrow⟩ := HR.out (by intro h; simp [h] at hlt)
        have hnode := (hrow.get k hlt).carry hbB HBEL.out
        have hmem : l[k] ∈ l := List.getElem_mem hlt
        obtain ⟨x1, hx1⟩ : ∃ x1, x1 = l[k] := ⟨_, rfl⟩
        have HX1 := hide hx1
        rw [← hx1] at hnode hmem
        have HMEM := hide hmem
        have HOK1 := hide (HOK.out x1 hmem)
        obtain ⟨c0, c1, c2, c3⟩ := hnode
        obtain ⟨p, hp⟩ : ∃ p, msgB x1 = p := ⟨_, rfl⟩
        have HP := hide hp
        obtain ⟨c, hcc⟩ : ∃ c, cntM x1.frm x1.to l = c := ⟨_, rfl⟩
        have HCC := hide hcc
        have hcl : c ≤ 36 := by rw [← hcc]; exact Nat.le_trans (cntM_le _ _ _) (by omega)
        clear hx1 hrow hcc hp hmem
        cases p
        · go_wp2_with fail
          refine wp_region_grown (by kernel_rfl) (by kernel_rfl) (fun W hW => ?_)
          have hne := grown_some W
          have f0 := grown_cell (w := W) (by rw [hW]; exact c0)
          have f1 := grown_cell (w := W) (by rw [hW]; exact c1)
          have f2 := grown_cell (w := W) (by rw [hW]; exact c2)
          have f3 := grown_cell (w := W) (by rw [hW]; exact c3)
          have HBW : Hid (Below w.heap.size w W) := hide (by rw [hW]; exact HBEL.out)
          clear hW
          repeat (go_big_quiet_step ((go_at_call 25; exact grown_more (s_msg (m := x1) HP.out HOK1.out _))))
          refine wpQuiet_nil ?_
          intro w1 hw1
          have HW1 := hide hw1
          clear hw1 hne f0 f1 f2 f3
          go_wp2_with fail
          go_ret
          exact ⟨ret_bool (by rw [← HQ.out]; exact net_msg HMEM.out HP.out), HBW.out.trans (HW1.out.mono HBW.out.size)⟩
        · by_cases h3 : 3 < c
          all_goals
            go_wp2_with fail
            refine wp_region_grown (by kernel_rfl) (by kernel_rfl) (fun W hW => ?_)
            have hne := grown_some W
            have f0 := grown_cell (w := W) (by rw [hW]; exact c0)
            have f1 := grown_cell (w := W) (by rw [hW]; exact c1)
            have f2 := grown_cell (w := W) (by rw [hW]; exact c2)
            have f3 := grown_cell (w := W) (by rw [hW]; exact c3)
            have HBW : Hid (Below w.heap.size w W) := hide (by rw [hW]; exact HBEL.out)
            clear hW
            repeat (go_big_quiet_step (first
              | (go_at_call 25; exact grown_more (s_msg (m := x1) HP.out HOK1.out _))
              | (go_at_call 68; exact grown_more (s_count_at HCC.out _ _ (by omega) ((HV.out _ (HBW.out.trans ((Grown.bel _).mono HBW.out.size))))))))
            refine wpQuiet_nil ?_
            intro w1 hw1
            have HB2 : Hid (Below w.heap.size w w1) := hide (HBW.out.trans (hw1.mono HBW.out.size))
            clear hw1 hne f0 f1 f2 f3
            go_wp2_with fail
          · go_ret
            exact ⟨ret_bool (by rw [← HQ.out]; exact net_full HMEM.out (by rw [HCC.out]; exact h3)), HB2.out⟩
          · go_roundw
            case rel =>
              refine ⟨k + 1, by omega, by go_num, fun j hj hjk => ?_, HB2.out⟩
              by_cases e : j = k
              · subst e; rw [← HX1.out, HCC.out]; exact ⟨HP.out, by omega⟩
              · exact HALL.out j hj (by omega)
            case measure => simp [intOf]; omega
      · go_wp2_with fail
        go_ret
        refine ⟨ret_bool ?_, HBEL.out⟩
        rw [← HQ.out]
        refine net_yes (by omega) (fun m hm => ?_) (fun m hm => ?_)
        · obtain ⟨j, hj, rfl⟩ := List.getElem_of_mem hm
          exact (HALL.out j hj (by omega)).1
        · obtain ⟨j, hj, rfl⟩ := List.getElem_of_mem hm
          exact (HALL.out j hj (by omega)).2
end Go.Proofs.YtonafcifolddjaaGreatDoor
/- Seal: both functions and the law, walked. -/
namespace Go.Proofs.YtonafcifolddjaaGreatDoor
open Go.RowKit

/-- Byte i of a number, the lowest first. -/
def byteOf (c : Int) (i : Nat) : UInt8 := UInt8.ofNat (c / 2 ^ (8 * i) % 256).toNat
def fourL (c : Int) : List UInt8 := [byteOf c 0, byteOf c 1, byteOf c 2, byteOf c 3]
def fourS (c : Int) : ByteArray := ⟨(fourL c).toArray⟩
theorem byteOf_toNat (c : Int) (i : Nat) : ((byteOf c i).toNat : Int) = c / 2 ^ (8 * i) % 256 := by
  unfold byteOf
  generalize c / 2 ^ (8 * i) = v
  rw [UInt8.toNat_ofNat']
  omega
theorem fourL_at (c : Int) : ∀ j, j < 4 → (fourL c)[j]? = some (byteOf c j)
  | 0, _ => rfl
  | 1, _ => rfl
  | 2, _ => rfl
  | 3, _ => rfl
theorem fourL_length (c : Int) : (fourL c).length = 4 := rfl

/-- string(b) of a new row. -/
theorem conv_new (w : World) (arr : Array Value) (T : TypeId) (l : List UInt8) (cap : Nat) (h : ∀ j (hj : j < l.length), arr[j]? = some (.int .u8 (l[j].toNat : Int))) :
    (convert 22 9 (.slice (some ⟨w.heap.size, 0, none⟩) l.length cap)).run Tryz.prog (w.alloc (.cells arr T)) = .ok (.string ⟨l.toArray⟩) (w.alloc (.cells arr T)) := by
  refine run_convert_bytes_back (P := Tryz.prog) (w.alloc (.cells arr T)) 22 9 5 ⟨w.heap.size, 0, none⟩ cap l Tryz.underlying22 Tryz.underlying5 Tryz.underlying9 (fun j hj => ?_)
  have ea : (⟨w.heap.size, 0, none⟩ : Addr).add j = ⟨w.heap.size, j, none⟩ := by unfold Addr.add; split <;> simp_all
  rw [ea, World.cell?_alloc_at _ _ _ _ rfl]
  exact h j hj

theorem conv_four (w : World) (arr : Array Value) (T : TypeId) (c : Int) (h : ∀ j, j < 4 → arr[j]? = some (.int .u8 (c / 2 ^ (8 * j) % 256))) :
    (convert 22 9 (.slice (some ⟨w.heap.size, 0, none⟩) 4 4)).run Tryz.prog (w.alloc (.cells arr T)) = .ok (.string (fourS c)) (w.alloc (.cells arr T)) :=
  conv_new w arr T (fourL c) 4 (fun j hj => by
    rw [fourL_length] at hj
    have := fourL_at c j hj
    rw [List.getElem?_eq_getElem (by rw [fourL_length]; exact hj)] at this
    rw [Option.some.inj this, byteOf_toNat]
    exact h j hj)

theorem four_cells (c : Int) (h0 : 0 ≤ c) (h1 : c < 4294967296) : ∀ j, j < 4 → (#[Value.int .u8 (c % 256), .int .u8 (c / 256 % 256), .int .u8 (c / 65536 % 256), .int .u8 (c / 16777216)] : Array Value)[j]? = some (.int .u8 (c / 2 ^ (8 * j) % 256))
  | 0, _ => by simp
  | 1, _ => by simp
  | 2, _ => by simp
  | 3, _ => by simp; omega

set_option maxRecDepth 100000 in
set_option maxHeartbeats 400000 in
theorem spec_four (c : Int) (w : World) (h0 : 0 ≤ c) (h1 : c < 4294967296) :
    Calls Tryz.prog 83 #[.int .i64 c] w fun e w' => e = .returned (.string (fourS c)) ∧ Below w.heap.size w w' := by
  have hcv := conv_four w _ 5 c (four_cells c h0 h1)
  go_enter Tryz.func83, Tryz.ntmps83
  go_wp2
  go_ret
  exact ⟨rfl, (Below.refl _ _).alloc (Nat.le_refl _) _⟩

set_option maxRecDepth 100000 in
set_option maxHeartbeats 400000 in
theorem impl_sum (s : ByteArray) (w : World) (hs : s.size ≤ 8000) :
    Calls Tryz.prog 91 #[.string s] w fun e w' => e = .returned (.string (fourS (crcOf 0 s))) ∧ Below w.heap.size w w' := by
  have hm : s.size ≤ maxLen := by unfold maxLen; omega
  obtain ⟨h0, h1⟩ := crcOf_range 0 s
  have HM := hide hm
  have HC := hide (moreB_yes (crc := 0) hs (by omega) (by omega))
  clear hm
  generalize crcOf 0 s = C at *
  go_enter Tryz.func91, Tryz.ntmps91
  go_wp2_with (go_at_call 95; refine (impl_crc s _ HM.out).mono ?_; rintro e w1 ⟨rfl, hw⟩; obtain rfl : w = w1 := hw.symm; clear hw; rw [HC.out])
  go_loopw [5, 8] (fun _ i wr => ∃ (k : Nat) (arr : Array Value), k ≤ 4 ∧ i = .int .i64 k ∧ arr.size = 4 ∧ (∀ j, j < k → arr[j]? = some (.int .u8 (C / 2 ^ (8 * j) % 256))) ∧ wr = w.alloc (.cells arr 121)) (fun _ i _ => 4 - (intOf i).toNat)
  case atStart => exact ⟨0, _, by omega, rfl, rfl, fun j hj => absurd hj (by omega), rfl⟩
  case round =>
    obtain ⟨k, arr, hk, rfl, hsz, hall, rfl⟩ := hrel
    have HA := hide hall
    have HZ := hide hsz
    clear hall
    by_cases hlt : k < 4
    · obtain ⟨old, hold⟩ : ∃ old, arr[k]? = some old := ⟨_, Array.getElem?_eq_getElem (by omega)⟩
      clear hsz
      go_wp2
      go_roundw
      case rel =>
        refine ⟨k + 1, _, by omega, by go_num, by simpa using HZ.out, fun j hj => ?_, rfl⟩
        rw [Array.getElem?_setIfInBounds]
        by_cases e : k = j
        · subst e; rw [if_pos rfl, if_pos (by rw [HZ.out]; exact hlt)]
        · rw [if_neg e]; exact HA.out j (by omega)
      case measure => simp [intOf]; omega
    · have hcv := conv_four w arr 121 C (fun j hj => HA.out j (by omega))
      clear hsz
      go_wp2
      go_ret
      exact ⟨rfl, (Below.refl _ _).alloc (Nat.le_refl _) _⟩

def sealS (s : ByteArray) : ByteArray := if s.size ≤ 7996 then s ++ fourS (crcOf 0 s) else ByteArray.empty
theorem sealS_yes {s : ByteArray} (h : s.size ≤ 7996) : sealS s = s ++ fourS (crcOf 0 s) := if_pos h
theorem sealS_no {s : ByteArray} (h : 7996 < s.size) : sealS s = ByteArray.empty := if_neg (by omega)
theorem fourS_size (c : Int) : (fourS c).size = 4 := rfl

set_option maxRecDepth 100000 in
set_option maxHeartbeats 400000 in
theorem impl_seal (s : ByteArray) (w : World) (hs : s.size ≤ maxLen) :
    Calls Tryz.prog 78 #[.string s] w fun e w' => e = .returned (.string (sealS s)) ∧ Below w.heap.size w w' := by
  unfold maxLen at hs
  by_cases h : 7996 < s.size
  · have HM := hide (sealS_no h)
    go_enter Tryz.func78, Tryz.ntmps78
    go_wp2_with fail
    go_ret
    exact ⟨ret_str HM.out, Below.refl _ _⟩
  · have HM := hide (sealS_yes (s := s) (by omega))
    have HN := hide (fourS_size (crcOf 0 s))
    have HF : Hid (∀ w, Calls Tryz.prog 91 #[.string s] w fun e w' => e = .returned (.string (fourS (crcOf 0 s))) ∧ Below w.heap.size w w') := fun w => impl_sum s w (by omega)
    generalize fourS (crcOf 0 s) = F at *
    go_enter Tryz.func78, Tryz.ntmps78
    go_wp2_with (first | (go_at_call 91; refine (HF.out _).mono ?_; rintro e w1 ⟨rfl, hb1⟩; have HB1 := hide hb1; clear hb1))
    refine (join2 s F _ _ _ (by simp) ?_ ?_ ?_).mono ?_
    · simp
    · simp
    · have := HN.out; omega
    rintro e w2 ⟨rfl, hb2⟩
    have HB2 := hide hb2
    clear hb2
    go_wp2
    go_ret
    exact ⟨ret_str (by rw [HM.out, join_two]), (HB1.out.alloc HB1.out.size _).trans (HB2.out.mono (by simp; have := HB1.out.size; omega))⟩
set_option maxRecDepth 100000 in
set_option maxHeartbeats 400000 in
theorem spec_seal (s : ByteArray) (w : World) (hs : s.size ≤ maxLen) :
    Calls Tryz.prog 62 #[.string s] w fun e w' => e = .returned (.string (sealS s)) ∧ Below w.heap.size w w' := by
  have HS := hide hs
  unfold maxLen at hs
  by_cases h : 7996 < s.size
  · have HM := hide (sealS_no h)
    go_enter Tryz.func62, Tryz.ntmps62
    go_wp2_with fail
    go_ret
    exact ⟨ret_str HM.out, Below.refl _ _⟩
  · have HM := hide (sealS_yes (s := s) (by omega))
    have HF : Hid (∀ w, Calls Tryz.prog 83 #[.int .i64 (crcOf 0 s)] w fun e w' => e = .returned (.string (fourS (crcOf 0 s))) ∧ Below w.heap.size w w') := fun w => spec_four _ w (crcOf_range 0 s).1 (crcOf_range 0 s).2
    have hN := fourS_size (crcOf 0 s)
    go_enter Tryz.func62, Tryz.ntmps62
    go_wp2_with (first | (go_at_call 84; refine (spec_crc 0 s _ HS.out (by omega) (by omega)).mono ?_; rintro e w1 ⟨rfl, hw⟩; obtain rfl : w = w1 := hw.symm; clear hw) | (go_at_call 83; refine (HF.out _).mono ?_; rintro e w2 ⟨rfl, hb1⟩; have HB1 := hide hb1; clear hb1))
    go_ret
    exact ⟨ret_str (by rw [HM.out]), HB1.out⟩

end Go.Proofs.YtonafcifolddjaaGreatDoor
