/- The specification's NetRead: its pieces. -/
import Derived.Test.YtpbaljoindljnaaSdJ
import Derived.Test.YtpbaljoindljnaaNetRI
import Derived.Test.YtpbaljoindljnaaNetBS
namespace Go.Proofs.Ytpbaljoindljnaa
open Go.RowKit
attribute [local go_sem ↓] Go.wp_at_zero Go.wp_at_succ

structure SBox (w : World) (b : Nat) (x : RMsg) : Prop where
  m0 : w.cell? ⟨b, 0, none⟩ = some (.string x.frm)
  m1 : w.cell? ⟨b, 1, none⟩ = some (.string x.to)
  m2 : w.cell? ⟨b, 2, none⟩ = some (.string x.label)
  m3 : w.cell? ⟨b, 3, none⟩ = some (.int .i64 x.sort)
  fz : ∀ o, w.frozen? ⟨b, o, none⟩ = false
theorem SBox.lt {w : World} {b : Nat} {x : RMsg} (h : SBox w b x) : b < w.heap.size := World.block_lt_of_cell? w _ h.m0
theorem SBox.keep {w w' : World} {b : Nat} {x : RMsg} {l : List Nat} (h : SBox w b x) (ha : Apart w w' l) (h1 : b ∉ l) : SBox w' b x :=
  ⟨ha.cell' h.m0 h1, ha.cell' h.m1 h1, ha.cell' h.m2 h1, ha.cell' h.m3 h1, fun o => ha.frozen' h.lt (h.fz o) h1⟩
theorem sbox_new (w : World) (x : RMsg) : SBox (w.alloc (.cells #[.string x.frm, .string x.to, .string x.label, .int .i64 x.sort] 26)) w.heap.size x := by
  refine ⟨?_, ?_, ?_, ?_, fun o => ?_⟩
  all_goals simp
theorem sbox_put {w : World} {b : Nat} {x : RMsg} (h : SBox w b x) (y : RMsg) : SBox (putMsg w b 0 y) b y := by
  obtain ⟨a0, a1, a2, a3⟩ := putMsg_at w b 0 y (fun i hi => by
    match i, hi with
    | 0, _ => exact ⟨_, h.m0⟩
    | 1, _ => exact ⟨_, h.m1⟩
    | 2, _ => exact ⟨_, h.m2⟩
    | 3, _ => exact ⟨_, h.m3⟩)
  exact ⟨a0, a1, a2, a3, fun o => (putMsg_frozen _ _ _ _ _).trans (h.fz o)⟩
theorem sbox_set1 {w : World} {b : Nat} {x : RMsg} (h : SBox w b x) (s : ByteArray) : SBox (w.setCell ⟨b, 1, none⟩ (.string s)) b ⟨x.frm, s, x.label, x.sort⟩ := by
  refine ⟨?_, World.cell?_setCell_same _ _ _ h.m1, ?_, ?_, fun o => (World.frozen?_setCell ..).trans (h.fz o)⟩
  · rw [World.cell?_setCell_other _ _ _ _ (by simp)]; exact h.m0
  · rw [World.cell?_setCell_other _ _ _ _ (by simp)]; exact h.m2
  · rw [World.cell?_setCell_other _ _ _ _ (by simp)]; exact h.m3
theorem sbox_set2 {w : World} {b : Nat} {x : RMsg} (h : SBox w b x) (s : ByteArray) : SBox (w.setCell ⟨b, 2, none⟩ (.string s)) b ⟨x.frm, x.to, s, x.sort⟩ := by
  refine ⟨?_, ?_, World.cell?_setCell_same _ _ _ h.m2, ?_, fun o => (World.frozen?_setCell ..).trans (h.fz o)⟩
  · rw [World.cell?_setCell_other _ _ _ _ (by simp)]; exact h.m0
  · rw [World.cell?_setCell_other _ _ _ _ (by simp)]; exact h.m1
  · rw [World.cell?_setCell_other _ _ _ _ (by simp)]; exact h.m3
theorem sbox_set3 {w : World} {b : Nat} {x : RMsg} (h : SBox w b x) (s : Int) : SBox (w.setCell ⟨b, 3, none⟩ (.int .i64 s)) b ⟨x.frm, x.to, x.label, s⟩ := by
  refine ⟨?_, ?_, ?_, World.cell?_setCell_same _ _ _ h.m3, fun o => (World.frozen?_setCell ..).trans (h.fz o)⟩
  · rw [World.cell?_setCell_other _ _ _ _ (by simp)]; exact h.m0
  · rw [World.cell?_setCell_other _ _ _ _ (by simp)]; exact h.m1
  · rw [World.cell?_setCell_other _ _ _ _ (by simp)]; exact h.m2
def snW (w : World) (t : ByteArray) : World := ((w.alloc (.cells #[.slice none 0 0, .string ⟨#[]⟩, .string ⟨#[]⟩, .string ⟨#[]⟩, .int .i64 0, .int .i64 0] 38)).alloc (.cells #[.string t, .int .i64 0, .bool false] 58)).alloc (.cells #[] 26)
theorem sn_start (w : World) (t : ByteArray) : NoB (snW w t) w.heap.size ∧ SdAt (snW w t) (w.heap.size + 1) t 0 0 ∧ (snW w t).heap[w.heap.size + 2]? = some (.cells #[] 26 (0, 0)) ∧ Below w.heap.size w (snW w t) := by
  have hb1 : Below (w.heap.size + 1) (w.alloc (.cells #[.slice none 0 0, .string ⟨#[]⟩, .string ⟨#[]⟩, .string ⟨#[]⟩, .int .i64 0, .int .i64 0] 38)) (snW w t) := ((Below.refl _ _).alloc (by simp) _).alloc (by simp) _
  have hb2 : Below (w.heap.size + 2) ((w.alloc (.cells #[.slice none 0 0, .string ⟨#[]⟩, .string ⟨#[]⟩, .string ⟨#[]⟩, .int .i64 0, .int .i64 0] 38)).alloc (.cells #[.string t, .int .i64 0, .bool false] 58)) (snW w t) := (Below.refl _ _).alloc (by simp) _
  refine ⟨⟨?_, ?_, ?_, ?_, ?_, ?_, ?_⟩, ⟨⟨0, by omega, by omega, fun _ => rfl, ?_⟩, ?_, ?_, ?_, ?_⟩, ?_, (((Below.refl _ _).alloc (Nat.le_refl _) _).alloc (by simp) _).alloc (by simp; omega) _⟩
  · exact (hb1.cell (p := ⟨w.heap.size, 0, none⟩) (by simp)).trans (by simp)
  · exact (hb1.cell (p := ⟨w.heap.size, 1, none⟩) (by simp)).trans (by simp)
  · exact (hb1.cell (p := ⟨w.heap.size, 2, none⟩) (by simp)).trans (by simp)
  · exact (hb1.cell (p := ⟨w.heap.size, 3, none⟩) (by simp)).trans (by simp)
  · exact (hb1.cell (p := ⟨w.heap.size, 4, none⟩) (by simp)).trans (by simp)
  · exact (hb1.cell (p := ⟨w.heap.size, 5, none⟩) (by simp)).trans (by simp)
  · intro o
    exact (hb1.frozen (p := ⟨w.heap.size, o, none⟩) (by simp)).trans (by simp [World.frozen?_alloc_at])
  · exact (hb2.cell (p := ⟨w.heap.size + 1, 1, none⟩) (by simp)).trans (by simp)
  · exact (hb2.cell (p := ⟨w.heap.size + 1, 0, none⟩) (by simp)).trans (by simp)
  · exact (hb2.cell (p := ⟨w.heap.size + 1, 2, none⟩) (by simp)).trans (by simp)
  · exact (hb2.frozen (p := ⟨w.heap.size + 1, 1, none⟩) (by simp)).trans (by simp [World.frozen?_alloc_at])
  · exact (hb2.frozen (p := ⟨w.heap.size + 1, 2, none⟩) (by simp)).trans (by simp [World.frozen?_alloc_at])
  · unfold snW
    rw [mheap_new _ _ _ (by simp)]
theorem Try.infoOutR : (Try.prog.info? 38).map (·.size) = some 6 := by kernel_rfl
set_option maxRecDepth 100000 in
theorem sr_ill (c : Int) (w : World) : Calls Try.prog 37 #[.int .i64 c] w fun e w' => e = .returned (netV (.slice none 0 0) noRMsg c) ∧ Below w.heap.size w w' := by
  have HI := hide Try.infoOutR
  go_enter Try.func37, Try.ntmps37
  go_wp2_with fail
  refine bodyPost_ret_by (results_cell_row rfl _ _ w.heap.size 38 #[.slice none 0 0, .string ByteArray.empty, .string ByteArray.empty, .string ByteArray.empty, .int .i64 0, .int .i64 c] (0, 0) _ rfl ?_ Try.underlying38 rfl HI.out) rfl ⟨rfl, malloc1 _ _⟩
  rw [mheap_new _ _ _ rfl]
  rfl
theorem rdK_bad (t : ByteArray) (j : Nat) (h : (rdK t j).2.2 ≠ 0) : ∀ k, (rdK t (j + k)).2.2 ≠ 0
  | 0 => h
  | k + 1 => by
    have ih := rdK_bad t j h k
    have e : rdK t (j + (k + 1)) = ((rdK t (j + k)).1 ++ [(wordI t (rdK t (j + k)).2.1 (rdK t (j + k)).2.2).1], (wordI t (rdK t (j + k)).2.1 (rdK t (j + k)).2.2).2) := rfl
    rw [e]
    unfold wordI
    rw [if_neg ih]
    exact ih
theorem smsg_ok (s : ByteArray) : (smsg s).ok := by
  have hz := unT_size s
  have h1 := wordI_size (unT s)
  unfold smsg rd4 RMsg.ok maxLen
  exact ⟨Nat.le_trans (h1 _ _ hz) (by omega), Nat.le_trans (h1 _ _ hz) (by omega), Nat.le_trans (h1 _ _ hz) (by omega)⟩
end Go.Proofs.Ytpbaljoindljnaa
