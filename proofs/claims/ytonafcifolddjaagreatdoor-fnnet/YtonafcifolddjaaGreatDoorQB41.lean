/- The specification's NetRead: its pieces. -/
import Derived.Test.YtonafcifolddjaaGreatDoorQB36
import Derived.Test.YtonafcifolddjaaGreatDoorQB37
import Derived.Test.YtonafcifolddjaaGreatDoorQB22
namespace Go.Proofs.YtonafcifolddjaaGreatDoor
open Go.RowKit
attribute [local go_sem ↓] Go.wp_at_zero Go.wp_at_succ

structure SBox (w : World) (b : Nat) (x : RMsg) : Prop where
  m0 : w.cell? ⟨b, 0, none⟩ = some (.string x.frm)
  m1 : w.cell? ⟨b, 1, none⟩ = some (.string x.to)
  m2 : w.cell? ⟨b, 2, none⟩ = some (.string x.label)
  m3 : w.cell? ⟨b, 3, none⟩ = some (.int .i64 x.sort)
  fz : ∀ o, w.frozen? ⟨b, o, none⟩ = false
theorem SBox.lt {w : World} {b : Nat} {x : RMsg} (h : SBox w b x) : b < w.heap.size := World.block_lt_of_cell? w _ h.m0
theorem SBox.keep {w w' : World} {b : Nat} {x : RMsg} {l : List Nat} (h : SBox w b x) (ha : Apart w w' l) (h1 : b ∉ l) : SBox w' b x :=
  ⟨ha.cell' h.m0 h1, ha.cell' h.m1 h1, ha.cell' h.m2 h1, ha.cell' h.m3 h1, fun o => ha.frozen' h.lt (h.fz o) h1⟩
theorem sbox_new (w : World) (x : RMsg) : SBox (w.alloc (.cells #[.string x.frm, .string x.to, .string x.label, .int .i64 x.sort] 25)) w.heap.size x := by
  refine ⟨?_, ?_, ?_, ?_, fun o => ?_⟩
  all_goals simp
theorem sbox_put {w : World} {b : Nat} {x : RMsg} (h : SBox w b x) (y : RMsg) : SBox (putMsg w b 0 y) b y := by
  obtain ⟨a0, a1, a2, a3⟩ := putMsg_at w b 0 y (fun i hi => by
    match i, hi with
    | 0, _ => exact ⟨_, h.m0⟩
    | 1, _ => exact ⟨_, h.m1⟩
    | 2, _ => exact ⟨_, h.m2⟩
    | 3, _ => exact ⟨_, h.m3⟩)
  exact ⟨a0, a1, a2, a3, fun o => (putMsg_frozen _ _ _ _ _).trans (h.fz o)⟩
theorem sbox_set1 {w : World} {b : Nat} {x : RMsg} (h : SBox w b x) (s : ByteArray) : SBox (w.setCell ⟨b, 1, none⟩ (.string s)) b ⟨x.frm, s, x.label, x.sort⟩ := by
  refine ⟨?_, World.cell?_setCell_same _ _ _ h.m1, ?_, ?_, fun o => (World.frozen?_setCell ..).trans (h.fz o)⟩
  · rw [World.cell?_setCell_other _ _ _ _ (by simp)]; exact h.m0
  · rw [World.cell?_setCell_other _ _ _ _ (by simp)]; exact h.m2
  · rw [World.cell?_setCell_other _ _ _ _ (by simp)]; exact h.m3
theorem sbox_set2 {w : World} {b : Nat} {x : RMsg} (h : SBox w b x) (s : ByteArray) : SBox (w.setCell ⟨b, 2, none⟩ (.string s)) b ⟨x.frm, x.to, s, x.sort⟩ := by
  refine ⟨?_, ?_, World.cell?_setCell_same _ _ _ h.m2, ?_, fun o => (World.frozen?_setCell ..).trans (h.fz o)⟩
  · rw [World.cell?_setCell_other _ _ _ _ (by simp)]; exact h.m0
  · rw [World.cell?_setCell_other _ _ _ _ (by simp)]; exact h.m1
  · rw [World.cell?_setCell_other _ _ _ _ (by simp)]; exact h.m3
theorem sbox_set3 {w : World} {b : Nat} {x : RMsg} (h : SBox w b x) (s : Int) : SBox (w.setCell ⟨b, 3, none⟩ (.int .i64 s)) b ⟨x.frm, x.to, x.label, s⟩ := by
  refine ⟨?_, ?_, ?_, World.cell?_setCell_same _ _ _ h.m3, fun o => (World.frozen?_setCell ..).trans (h.fz o)⟩
  · rw [World.cell?_setCell_other _ _ _ _ (by simp)]; exact h.m0
  · rw [World.cell?_setCell_other _ _ _ _ (by simp)]; exact h.m1
  · rw [World.cell?_setCell_other _ _ _ _ (by simp)]; exact h.m2
def snW (w : World) (t : ByteArray) : World := ((w.alloc (.cells #[.slice none 0 0, .string ⟨#[]⟩, .string ⟨#[]⟩, .string ⟨#[]⟩, .int .i64 0, .int .i64 0] 29)).alloc (.cells #[.string t, .int .i64 0, .bool false] 84)).alloc (.cells #[] 25)
theorem sn_start (w : World) (t : ByteArray) : NoB (snW w t) w.heap.size ∧ SdAt (snW w t) (w.heap.size + 1) t 0 0 ∧ (snW w t).heap[w.heap.size + 2]? = some (.cells #[] 25 (0, 0)) ∧ Below w.heap.size w (snW w t) := by
  have hb1 : Below (w.heap.size + 1) (w.alloc (.cells #[.slice none 0 0, .string ⟨#[]⟩, .string ⟨#[]⟩, .string ⟨#[]⟩, .int .i64 0, .int .i64 0] 29)) (snW w t) := ((Below.refl _ _).alloc (by simp) _).alloc (by simp) _
  have hb2 : Below (w.heap.size + 2) ((w.alloc (.cells #[.slice none 0 0, .string ⟨#[]⟩, .string ⟨#[]⟩, .string ⟨#[]⟩, .int .i64 0, .int .i64 0] 29)).alloc (.cells #[.string t, .int .i64 0, .bool false] 84)) (snW w t) := (Below.refl _ _).alloc (by simp) _
  refine ⟨⟨?_, ?_, ?_, ?_, ?_, ?_, ?_⟩, ⟨⟨0, by omega, by omega, fun _ => rfl, ?_⟩, ?_, ?_, ?_, ?_⟩, ?_, (((Below.refl _ _).alloc (Nat.le_refl _) _).alloc (by simp) _).alloc (by simp; omega) _⟩
  · exact (hb1.cell (p := ⟨w.heap.size, 0, none⟩) (by simp)).trans (by simp)
  · exact (hb1.cell (p := ⟨w.heap.size, 1, none⟩) (by simp)).trans (by simp)
  · exact (hb1.cell (p := ⟨w.heap.size, 2, none⟩) (by simp)).trans (by simp)
  · exact (hb1.cell (p := ⟨w.heap.size, 3, none⟩) (by simp)).trans (by simp)
  · exact (hb1.cell (p := ⟨w.heap.size, 4, none⟩) (by simp)).trans (by simp)
  · exact (hb1.cell (p := ⟨w.heap.size, 5, none⟩) (by simp)).trans (by simp)
  · intro o
    exact (hb1.frozen (p := ⟨w.heap.size, o, none⟩) (by simp)).trans (by simp [World.frozen?_alloc_at])
  · exact (hb2.cell (p := ⟨w.heap.size + 1, 1, none⟩) (by simp)).trans (by simp)
  · exact (hb2.cell (p := ⟨w.heap.size + 1, 0, none⟩) (by simp)).trans (by simp)
  · exact (hb2.cell (p := ⟨w.heap.size + 1, 2, none⟩) (by simp)).trans (by simp)
  · exact (hb2.frozen (p := ⟨w.heap.size + 1, 1, none⟩) (by simp)).trans (by simp [World.frozen?_alloc_at])
  · exact (hb2.frozen (p := ⟨w.heap.size + 1, 2, none⟩) (by simp)).trans (by simp [World.frozen?_alloc_at])
  · unfold snW
    rw [mheap_new _ _ _ (by simp)]
theorem Tryz.infoOutR : (Tryz.prog.info? 29).map (·.size) = some 6 := by kernel_rfl
set_option maxRecDepth 100000 in
theorem sr_ill (c : Int) (w : World) : Calls Tryz.prog 52 #[.int .i64 c] w fun e w' => e = .returned (netV (.slice none 0 0) noRMsg c) ∧ Below w.heap.size w w' := by
  have HI := hide Tryz.infoOutR
  go_enter Tryz.func52, Tryz.ntmps52
  go_wp2_with fail
  refine bodyPost_ret_by (results_cell_row rfl _ _ w.heap.size 29 #[.slice none 0 0, .string ByteArray.empty, .string ByteArray.empty, .string ByteArray.empty, .int .i64 0, .int .i64 c] (0, 0) _ rfl ?_ Tryz.underlying29 rfl HI.out) rfl ⟨rfl, malloc1 _ _⟩
  rw [mheap_new _ _ _ rfl]
  rfl
theorem rdK_bad (t : ByteArray) (j : Nat) (h : (rdK t j).2.2 ≠ 0) : ∀ k, (rdK t (j + k)).2.2 ≠ 0
  | 0 => h
  | k + 1 => by
    have ih := rdK_bad t j h k
    have e : rdK t (j + (k + 1)) = ((rdK t (j + k)).1 ++ [(wordI t (rdK t (j + k)).2.1 (rdK t (j + k)).2.2).1], (wordI t (rdK t (j + k)).2.1 (rdK t (j + k)).2.2).2) := rfl
    rw [e]
    unfold wordI
    rw [if_neg ih]
    exact ih
theorem smsg_ok (s : ByteArray) : (smsg s).ok := by
  have hz := unT_size s
  have h1 := wordI_size (unT s)
  unfold smsg rd4 RMsg.ok maxLen
  exact ⟨Nat.le_trans (h1 _ _ hz) (by omega), Nat.le_trans (h1 _ _ hz) (by omega), Nat.le_trans (h1 _ _ hz) (by omega)⟩
end Go.Proofs.YtonafcifolddjaaGreatDoor
/- The specification's NetRead. -/
namespace Go.Proofs.YtonafcifolddjaaGreatDoor
open Go.RowKit
attribute [local go_sem ↓] Go.wp_at_zero Go.wp_at_succ

def xW (w : World) (u : ByteArray) : World := w.alloc (.cells #[.string u, .int .i64 0, .bool false] 84)
theorem sd_new (w : World) (u : ByteArray) : SdAt (xW w u) w.heap.size u 0 0 := by
  refine ⟨⟨0, by omega, by omega, fun _ => rfl, ?_⟩, ?_, ?_, ?_, ?_⟩
  all_goals simp [xW]
theorem Apart.newer {a b c : World} {x : Nat} (h : Apart a b []) (h' : Apart b c [x]) (hx : a.heap.size ≤ x) : Apart a c [] :=
  ⟨h'.os.trans h.os, h'.tape.trans h.tape, h'.output.trans h.output, Nat.le_trans h.size h'.size, fun k hk _ => (h'.block k (Nat.lt_of_lt_of_le hk h.size) (by simp; omega)).trans (h.block k hk (by simp))⟩
theorem new_row1' (w : World) (cs : List Value) (t : TypeId) (b : Nat) (hb : b = w.heap.size) (j : Nat) (u : Value) (h : cs[j]? = some u) : (w.alloc (.cells cs.toArray t)).cell? (Addr.add ⟨b, 0, none⟩ j) = some u := by subst hb; exact new_row1 w cs t j u h
theorem list_inj {a b : ByteArray} (h : a.toList = b.toList) : a = b := bytes_inj h
theorem empty_list : ByteArray.empty.toList = [] := by rw [Go.ByteArray.toList_eq]; rfl
theorem empty_of {a : ByteArray} (h : a.toList = []) : a = ByteArray.empty := list_inj (h.trans empty_list.symm)
theorem box_at {wr w2 w3 : World} {rb : Nat} (h2 : Apart wr w2 [rb]) (h3 : Below w2.heap.size w2 w3) : Apart wr w3 [rb] ∧ wr.heap.size ≤ w3.heap.size := ⟨h2.then h3, Nat.le_trans h2.size h3.size⟩
theorem field_text (a : ByteArray) (c : Int) (W : World) : (Instr.field 86 (.agg #[.string a, .int .i64 0, .int .i64 c]) 0).run Tryz.prog W = .ok (.string a) W := by kernel_rfl
set_option maxRecDepth 100000 in
set_option maxHeartbeats 4000000 in
theorem s_netRead (t : ByteArray) (w : World) (hs : t.size ≤ 8000) :
    Calls Tryz.prog 21 #[.string t] w fun e w' => ∃ v, e = .returned (netV v noRMsg (netC t)) ∧ RMsgOwn w' w.heap.size v (netL t) ∧ Below w.heap.size w w' := by
  have HT := hide hs
  have HC : Hid (∀ rb w, SdAt w rb t 0 0 → Calls Tryz.prog 63 #[.pointer (some ⟨rb, 0, none⟩), .int .i64 36] w fun e w' => e = .returned (.int .i64 (cntR t).1) ∧ SdAt w' rb t (cntR t).2.1 (cntR t).2.2 ∧ Apart w w' [rb]) := hide (fun rb w h => sd_many t 0 0 36 rb w hs h)
  have HW : Hid (∀ k rb w, SdAt w rb t (rdK t k).2.1 (rdK t k).2.2 → Calls Tryz.prog 65 #[.pointer (some ⟨rb, 0, none⟩)] w fun e w' => e = .returned (.string (wordI t (rdK t k).2.1 (rdK t k).2.2).1) ∧ SdAt w' rb t (rdK t (k + 1)).2.1 (rdK t (k + 1)).2.2 ∧ Apart w w' [rb]) := hide (fun k rb w h => sd_text t _ _ rb w hs h)
  have HX : Hid (∀ k w, Calls Tryz.prog 64 #[.string (wordI t (rdK t k).2.1 (rdK t k).2.2).1] w fun e w' => e = .returned (.agg #[.string (unT (wordI t (rdK t k).2.1 (rdK t k).2.2).1), .int .i64 0, .int .i64 (unC (wordI t (rdK t k).2.1 (rdK t k).2.2).1)]) ∧ Below w.heap.size w w') := hide (fun k w => spec_unseal _ w (Nat.le_trans (wordI_size t _ _ hs) (by unfold maxLen; omega)))
  have HK1 : Hid (∀ k, (rdK t (k + 1)).1 = (rdK t k).1 ++ [(wordI t (rdK t k).2.1 (rdK t k).2.2).1]) := hide (fun k => rfl)
  have HR0 : Hid (∀ w rb, SdAt w rb t (cntR t).2.1 (cntR t).2.2 → SdAt w rb t (rdK t 0).2.1 (rdK t 0).2.2) := hide (fun _ _ h => h)
  have HLN : Hid (∀ k, (rdK t k).1.length = k) := hide (rdK_len t)
  have HBAD : Hid (∀ j k, (rdK t j).2.2 ≠ 0 → (rdK t (j + k)).2.2 ≠ 0) := hide (fun j k h => rdK_bad t j h k)
  have hg := cntR_rng t
  obtain ⟨N, hN⟩ : ∃ N : Nat, (cntR t).1 = (N : Int) := ⟨(cntR t).1.toNat, by omega⟩
  have hN36 : N ≤ 36 := by omega
  obtain ⟨i0, hi, hz0, hz1, hz2⟩ := info_parts Tryz.infoRMsg
  have HI := hide (And.intro hi (And.intro hz0 (And.intro hz1 hz2)))
  rw [hN] at HC
  have HWS : Hid (wsR t = rdK t N) := hide (by unfold wsR rdK; rw [hN, Int.toNat_natCast])
  have HNO : Hid (okS t → netL t = (rdK t N).1.map smsg ∧ netC t = 0) := hide (fun h => by
    have hI := ok_from hs h
    have e := (ok_to hI).2
    rw [HWS.out] at e
    have hb := (okB_iff t).2 hI
    unfold netL netC
    have h8 : ¬ 8000 < t.size := by omega
    rw [if_neg h8, if_neg h8, hb, HWS.out, e]
    exact ⟨rfl, rfl⟩)
  have HNN : Hid (¬ okS t → netL t = [] ∧ netC t = 3) := hide (fun h => by
    have hb : okB t = false := by
      cases hq : okB t
      · rfl
      · exact absurd (ok_to ((okB_iff t).1 hq)).1 h
    unfold netL netC
    have h8 : ¬ 8000 < t.size := by omega
    rw [if_neg h8, if_neg h8, hb]
    exact ⟨rfl, rfl⟩)
  have HOK : Hid (okS t ↔ (rdK t N).2.2 = 0 ∧ t ≠ ByteArray.empty ∧ netS ((rdK t N).1.map smsg) = t) := hide (by unfold okS; rw [HWS.out])
  have hts : ¬ 8000 < t.size := by omega
  clear hi hz0 hz1 hz2 hg
  generalize rdK t = R at *
  go_enter Tryz.func21, Tryz.ntmps21
  go_wp2_with (first
    | (go_at_call 63; refine (HC.out _ (snW w t) (sn_start w t).2.1).mono ?_; rintro e w1 ⟨rfl, hr1, ha1⟩; have HR1 := hide hr1; have HA1 := hide ha1; clear hr1 ha1))
  go_loopw [4, 5] (fun all i wr => ∃ n j : Nat, n + j = N ∧ i = .int .i64 n ∧ wr.ownsRow (w.heap.size + 2) 25 4 all j (((R j).1.map smsg).flatMap RMsg.cells) ∧ SdAt wr (w.heap.size + 1) t (R j).2.1 (R j).2.2 ∧ NoB wr w.heap.size ∧ w.heap.size + 2 ≤ wr.heap.size ∧ Below w.heap.size w wr) (fun _ i _ => (intOf i).toNat)
  case atStart =>
    obtain ⟨s1, -, s2, s3⟩ := sn_start w t
    have hz : w.heap.size + 2 < (snW w t).heap.size := by simp [snW]
    refine ⟨N, 0, rfl, rfl, ?_, HR0.out _ _ HR1.out, s1.keep HA1.out (by simp), by have := HA1.out.size; omega, s3.trans (apart_below HA1.out (by omega) s3.size)⟩
    have := HLN.out 0
    rw [List.length_eq_zero_iff] at this
    rw [this]
    exact owns_empty _ _ _ _ _ (Nat.le_refl _) ((HA1.out.block _ hz (by simp)).trans s2)
  case round =>
    obtain ⟨n, j, hnj, rfl, hown, hrd, hno, hsz, hbel⟩ := hrel
    have HNJ := hide hnj
    have hn36 : n ≤ 36 := by omega
    have HOWN := hide hown
    have HRD := hide hrd
    have HNB := hide hno
    have HSZ := hide hsz
    have HBEL := hide hbel
    obtain ⟨p, cp, rfl⟩ := owns_shape hown
    obtain ⟨-, c0, c2, f1, f2⟩ := hrd
    clear hown hno hsz hbel hnj
    by_cases hlt : 0 < n
    · by_cases hc : (R j).2.2 = 0
      · have e0 : decide ((R j).2.2 ≠ 0) = false := by simp [hc]
        rw [e0] at c2
        have HCZ := hide hc
        clear e0 hc
        obtain ⟨y1, hy1⟩ : ∃ y1, (wordI t (R j).2.1 (R j).2.2).1 = y1 := ⟨_, rfl⟩
        have HW1 := hide (HW.out j)
        have HX1 := hide (HX.out j)
        have HKK : Hid ((R (j + 1)).1.map smsg = (R j).1.map smsg ++ [smsg y1]) := hide (by rw [HK1.out j, List.map_append, ← hy1]; rfl)
        rw [hy1] at HW1 HX1
        clear hy1
        have hfd : ∀ W : World, (Instr.field 86 (.agg #[.string (unT y1), .int .i64 0, .int .i64 (unC y1)]) 0).run Tryz.prog W = .ok (.string (unT y1)) W := fun W => field_text _ _ W
        obtain ⟨u, hu⟩ : ∃ u, unT y1 = u := ⟨_, rfl⟩
        rw [hu] at hfd HX1
        obtain ⟨f, hf⟩ : ∃ f, wordI u 0 0 = f := ⟨_, rfl⟩
        obtain ⟨o, ho⟩ : ∃ o, wordI u f.2.1 f.2.2 = o := ⟨_, rfl⟩
        obtain ⟨l, hl⟩ : ∃ l, wordI u o.2.1 o.2.2 = l := ⟨_, rfl⟩
        obtain ⟨q, hq⟩ : ∃ q, numI u l.2.1 l.2.2 = q := ⟨_, rfl⟩
        have HSM : Hid (smsg y1 = ⟨f.1, o.1, l.1, q.1⟩) := hide (by unfold smsg; rw [hu, rd4_of hf ho hl hq])
        have hus : u.size ≤ 8000 := hu ▸ unT_size y1
        have H0 : Hid (∀ xb W, SdAt W xb u 0 0 → Calls Tryz.prog 65 #[.pointer (some ⟨xb, 0, none⟩)] W fun e W' => e = .returned (.string f.1) ∧ SdAt W' xb u f.2.1 f.2.2 ∧ Apart W W' [xb]) := hide (fun rb w h => by have := sd_text u 0 0 rb w hus h; rw [hf] at this; exact this)
        have H1 : Hid (∀ xb W, SdAt W xb u f.2.1 f.2.2 → Calls Tryz.prog 65 #[.pointer (some ⟨xb, 0, none⟩)] W fun e W' => e = .returned (.string o.1) ∧ SdAt W' xb u o.2.1 o.2.2 ∧ Apart W W' [xb]) := hide (fun rb w h => by have := sd_text u f.2.1 f.2.2 rb w hus h; rw [ho] at this; exact this)
        have H2 : Hid (∀ xb W, SdAt W xb u o.2.1 o.2.2 → Calls Tryz.prog 65 #[.pointer (some ⟨xb, 0, none⟩)] W fun e W' => e = .returned (.string l.1) ∧ SdAt W' xb u l.2.1 l.2.2 ∧ Apart W W' [xb]) := hide (fun rb w h => by have := sd_text u o.2.1 o.2.2 rb w hus h; rw [hl] at this; exact this)
        have H3 : Hid (∀ xb W, SdAt W xb u l.2.1 l.2.2 → Calls Tryz.prog 66 #[.pointer (some ⟨xb, 0, none⟩)] W fun e W' => e = .returned (.int .i64 q.1) ∧ SdAt W' xb u q.2.1 q.2.2 ∧ Apart W W' [xb]) := hide (fun rb w h => by have := sd_num u l.2.1 l.2.2 rb w hus h; rw [hq] at this; exact this)
        clear hu hf ho hl hq hus
        go_wp2_with (first
          | ((fail_if_success (have := HR2)); go_at_call 65; refine (HW1.out _ _ HRD.out).mono ?_; rintro e w2 ⟨rfl, hr2, ha2⟩; have HR2 := hide hr2; have HA2 := hide ha2; clear hr2 ha2)
          | (go_at_call 64; refine (HX1.out w2).mono ?_; rintro e w3 ⟨rfl, hb3⟩; have HZ3 := hide hb3.size; have HX3 := hide (sd_new w3 u); have HC3 : Hid (Apart w2 (xW w3 u) []) := hide ((below_apart hb3).then (malloc1 _ _)); clear hb3)
          | ((fail_if_success (have := HR4)); go_at_call 65; refine (H0.out _ _ HX3.out).mono ?_; rintro e w4 ⟨rfl, hr4, ha4⟩; have hz4 : w3.heap.size < w4.heap.size := (by have := ha4.size; simp [xW] at this; omega); have HZ4 := hide hz4; have HC4 := hide ((HC3.out.newer ha4 HZ3.out).then (malloc1 w4 (.cells #[.string f.1, .string ⟨#[]⟩, .string ⟨#[]⟩, .int .i64 0] 25))); have HB4 := hide (sbox_new w4 ⟨f.1, ⟨#[]⟩, ⟨#[]⟩, 0⟩); have HR4 := hide (hr4.keep (below_apart (malloc1 w4 (.cells #[.string f.1, .string ⟨#[]⟩, .string ⟨#[]⟩, .int .i64 0] 25))) (by simp)); have HND : Hid (w4.heap.size ∉ [w3.heap.size] ∧ w3.heap.size ∉ [w4.heap.size]) := hide (by simp; omega); have HZ5 : Hid (w2.heap.size ≤ w4.heap.size) := hide (by have := HZ3.out; omega); clear hr4 ha4 hz4)
          | ((fail_if_success (have := HR5)); go_at_call 65; refine (H1.out _ _ HR4.out).mono ?_; rintro e w5 ⟨rfl, hr5, ha5⟩; have HB5 := hide (HB4.out.keep ha5 HND.out.1); obtain ⟨m0, m1, m2, m3, fz⟩ := HB5.out; have HS5 := hide (setCell_apart w5 w4.heap.size 1 (.string o.1)); have HR5 := hide (hr5.keep HS5.out HND.out.2); have HC5 := hide ((HC4.out.newer ha5 HZ3.out).newer HS5.out HZ5.out); clear hr5 ha5)
          | ((fail_if_success (have := HR6)); go_at_call 65; refine (H2.out _ _ HR5.out).mono ?_; rintro e w6 ⟨rfl, hr6, ha6⟩; have HB6 := hide ((sbox_set1 HB5.out o.1).keep ha6 HND.out.1); obtain ⟨k0, k1, k2, k3, kz⟩ := HB6.out; have HS6 := hide (setCell_apart w6 w4.heap.size 2 (.string l.1)); have HR6 := hide (hr6.keep HS6.out HND.out.2); have HC6 := hide ((HC5.out.newer ha6 HZ3.out).newer HS6.out HZ5.out); clear hr6 ha6)
          | (go_at_call 66; refine (H3.out _ _ HR6.out).mono ?_; rintro e w7 ⟨rfl, hr7, ha7⟩; have HB7 := hide ((sbox_set2 HB6.out l.1).keep ha7 HND.out.1); obtain ⟨s0, s1, s2, s3, sz⟩ := HB7.out; have HC7 := hide ((HC6.out.newer ha7 HZ3.out).newer (setCell_apart w7 w4.heap.size 3 (.int .i64 q.1)) HZ5.out); clear hr7 ha7)
          | (at_builtin; refine wpList_append_own _ rfl (.tmp 47) (.tmp 49) 23 rfl (w.heap.size + 2) 25 i0 (.agg #[.string ByteArray.empty, .string ByteArray.empty, .string ByteArray.empty, .int .i64 0]) 4 56 Tryz.underlying23 HI.out.1 HI.out.2.1 HI.out.2.2.1 HI.out.2.2.2 rfl (by decide) (.slice p j cp) j (((R j).1.map smsg).flatMap RMsg.cells) rfl (owns_keep HOWN.out ((HA2.out.trans HC7.out).then (malloc1 _ _)) (fun b hb hn => by have := (owns_fresh HOWN.out).lo b hb; simp at hn; omega)) ⟨w7.heap.size, 0, none⟩ 1 1 (RMsg.cells ⟨f.1, o.1, l.1, q.1⟩) rfl rfl (fun k v hk => new_row1' (w7.setCell ⟨w4.heap.size, 3, none⟩ (.int .i64 q.1)) _ _ _ (World.size_setCell _ _ _).symm k v hk) (RMsg.cells_one _) (by have := HNJ.out; unfold maxLen; omega) (by have := HNJ.out; omega) (by have := HA2.out.size; have := HC7.out.size; have := HSZ.out; simp at *; omega) ?_; intro v8 w8 hown8 hgr8 _; have HOWN8 := hide hown8; have HGR8 := hide hgr8; clear hown8 hgr8))
        go_roundw
        case rel =>
          have hB : Apart w2 w8 (vblocks (.slice p j cp)) := by
            have := (HC7.out.then (malloc1 _ _)).trans (grownBy_apart HGR8.out)
            rwa [List.nil_append] at this
          have hA : Apart wr w8 ([w.heap.size + 1] ++ vblocks (.slice p j cp)) := HA2.out.trans hB
          have hfr := (owns_fresh HOWN.out).lo
          refine ⟨n - 1, j + 1, by have := HNJ.out; omega, by go_num, ?_, HR2.out.keep hB (fun h => by have := hfr _ h; omega), HNB.out.keep hA (fun h => by
            rw [List.mem_append] at h
            rcases h with h | h
            · simp at h
            · have := hfr _ h; omega), Nat.le_trans HSZ.out hA.size, HBEL.out.trans (hA.below HBEL.out.size (fun b hb => by
            rw [List.mem_append] at hb
            rcases hb with h | h
            · simp at h; omega
            · have := hfr _ h; omega))⟩
          rw [HKK.out, List.flatMap_append, HSM.out]
          simpa using HOWN8.out
        case measure => simp [intOf]; omega
      · have e0 : decide ((R j).2.2 ≠ 0) = true := by simp [hc]
        rw [e0] at c2
        have HCZ := hide hc
        clear e0 hc
        have hnok : ¬ okS t := fun h => by
          have := HBAD.out j n HCZ.out
          rw [show j + n = N from by have := HNJ.out; omega] at this
          exact this (HOK.out.1 h).1
        have HAN := hide (HNN.out hnok)
        clear hnok
        go_wp2_with (go_at_call 52; refine (sr_ill 3 _).mono ?_; rintro e w6 ⟨rfl, hb6⟩; have HB6 := hide hb6; have HN6 := hide (HNB.out.keep (below_apart hb6) (by simp)); obtain ⟨m0, m1, m2, m3, m4, m5, fz⟩ := HN6.out; clear hb6; unfold netV)
        refine bodyPost_ret (v := .agg #[.slice none 0 0, .string ⟨#[]⟩, .string ⟨#[]⟩, .string ⟨#[]⟩, .int .i64 0, .int .i64 3]) (by simp [results, Tryz.results21, go_sem, m0, m1, m2, m3, m4, m5]; exact ⟨rfl, rfl, rfl, rfl⟩) rfl ⟨.slice none 0 0, ret_val ?_, ?_, (((((((HBEL.out.trans (HB6.out.mono HBEL.out.size)).setCell (Nat.le_refl _) _).setCell (Nat.le_refl _) _).setCell (Nat.le_refl _) _).setCell (Nat.le_refl _) _).setCell (Nat.le_refl _) _).setCell (Nat.le_refl _) _)⟩
        · rw [HAN.out.2]; rfl
        · rw [HAN.out.1]; exact RMsgOwn.nil _ _
    · obtain rfl : n = 0 := by omega
      obtain rfl : j = N := by have := HNJ.out; omega
      have HLE : Hid (((R j).1.map smsg).length = j) := hide (by rw [List.length_map]; exact HLN.out j)
      have HOWN' : Hid (RMsgOwn wr (w.heap.size + 2) (.slice p j cp) ((R j).1.map smsg)) := hide (by
        have := HOWN.out
        unfold RMsgOwn
        rwa [HLE.out])
      have HMO : Hid (∀ m ∈ (R j).1.map smsg, m.ok) := hide (fun m hm => by
        obtain ⟨x, _, rfl⟩ := List.mem_map.1 hm
        exact smsg_ok x)
      have HML : Hid (((R j).1.map smsg).length ≤ 4294967296) := hide (by rw [HLE.out]; omega)
      by_cases hc : (R j).2.2 = 0
      · have e0 : decide ((R j).2.2 ≠ 0) = false := by simp [hc]
        rw [e0] at c2
        have HCZ := hide hc
        clear e0 hc
        by_cases htl : t.toList = []
        · have HAN := hide (HNN.out (fun h => (HOK.out.1 h).2.1 (empty_of htl)))
          go_wp2_with (go_at_call 52; refine (sr_ill 3 _).mono ?_; rintro e w6 ⟨rfl, hb6⟩; have HB6 := hide hb6; have HN6 := hide (HNB.out.keep (below_apart hb6) (by simp)); obtain ⟨m0, m1, m2, m3, m4, m5, fz⟩ := HN6.out; clear hb6; unfold netV)
          refine bodyPost_ret (v := .agg #[.slice none 0 0, .string ⟨#[]⟩, .string ⟨#[]⟩, .string ⟨#[]⟩, .int .i64 0, .int .i64 3]) (by simp [results, Tryz.results21, go_sem, m0, m1, m2, m3, m4, m5]; exact ⟨rfl, rfl, rfl, rfl⟩) rfl ⟨.slice none 0 0, ret_val ?_, ?_, (((((((HBEL.out.trans (HB6.out.mono HBEL.out.size)).setCell (Nat.le_refl _) _).setCell (Nat.le_refl _) _).setCell (Nat.le_refl _) _).setCell (Nat.le_refl _) _).setCell (Nat.le_refl _) _).setCell (Nat.le_refl _) _)⟩
          · rw [HAN.out.2]; rfl
          · rw [HAN.out.1]; exact RMsgOwn.nil _ _
        · by_cases hns : netS ((R j).1.map smsg) = t
          · have hokS : okS t := HOK.out.2 ⟨HCZ.out, fun h => htl (by rw [h]; exact empty_list), hns⟩
            have HAN := hide (HNO.out hokS)
            have HNS := hide hns
            clear hokS hns
            have hte : t.toList.isEmpty = false := by simpa using htl
            have hxx : (t.toList == t.toList) = true := by simp
            go_wp2_with (go_at_call 20; refine (s_netBytes _ _ wr HMO.out (by have := HOWN'.out.sl HML.out; exact this)).mono ?_; rw [HNS.out]; rintro e w6 ⟨rfl, hb6⟩; have HB6 := hide hb6; have HN6 := hide (HNB.out.keep (below_apart hb6) (by simp)); obtain ⟨m0, m1, m2, m3, m4, m5, fz⟩ := HN6.out; clear hb6)
            refine bodyPost_ret (v := .agg #[.slice p j cp, .string ⟨#[]⟩, .string ⟨#[]⟩, .string ⟨#[]⟩, .int .i64 0, .int .i64 0]) (by simp [results, Tryz.results21, go_sem, m0, m1, m2, m3, m4, m5]) rfl ⟨.slice p j cp, ret_val ?_, ?_, (((((((HBEL.out.trans (HB6.out.mono HBEL.out.size)).setCell (Nat.le_refl _) _).setCell (Nat.le_refl _) _).setCell (Nat.le_refl _) _).setCell (Nat.le_refl _) _).setCell (Nat.le_refl _) _).setCell (Nat.le_refl _) _)⟩
            · rw [HAN.out.2]; rfl
            · rw [HAN.out.1]
              exact owns_down (owns_keep (HOWN'.out.below HB6.out) (((((((Apart.weak (Apart.refl _)).setCell _ _).setCell _ _).setCell _ _).setCell _ _).setCell _ _).setCell _ _) (fun b hb hn => by have := (owns_fresh HOWN.out).lo b hb; simp at hn; omega)) (by omega)
          · have HAN := hide (HNN.out (fun h => hns (HOK.out.1 h).2.2))
            obtain ⟨x, hx⟩ : ∃ x, netS ((R j).1.map smsg) = x := ⟨_, rfl⟩
            rw [hx] at hns
            have HX' := hide hx
            have hxl : (x.toList == t.toList) = false := by simpa using fun h => hns (list_inj h)
            clear hns hx
            go_wp2_with (first
              | (go_at_call 20; refine (s_netBytes _ _ wr HMO.out (by have := HOWN'.out.sl HML.out; exact this)).mono ?_; rw [HX'.out]; rintro e w5 ⟨rfl, hb5⟩; have HB5 := hide hb5; clear hb5)
              | (go_at_call 52; refine (sr_ill 3 _).mono ?_; rintro e w6 ⟨rfl, hb6⟩; have HB6 : Hid (Below wr.heap.size wr w6) := hide (HB5.out.trans (hb6.mono HB5.out.size)); have HN6 := hide (HNB.out.keep (below_apart HB6.out) (by simp)); obtain ⟨m0, m1, m2, m3, m4, m5, fz⟩ := HN6.out; clear hb6; unfold netV))
            refine bodyPost_ret (v := .agg #[.slice none 0 0, .string ⟨#[]⟩, .string ⟨#[]⟩, .string ⟨#[]⟩, .int .i64 0, .int .i64 3]) (by simp [results, Tryz.results21, go_sem, m0, m1, m2, m3, m4, m5]; exact ⟨rfl, rfl, rfl, rfl⟩) rfl ⟨.slice none 0 0, ret_val ?_, ?_, (((((((HBEL.out.trans (HB6.out.mono HBEL.out.size)).setCell (Nat.le_refl _) _).setCell (Nat.le_refl _) _).setCell (Nat.le_refl _) _).setCell (Nat.le_refl _) _).setCell (Nat.le_refl _) _).setCell (Nat.le_refl _) _)⟩
            · rw [HAN.out.2]; rfl
            · rw [HAN.out.1]; exact RMsgOwn.nil _ _
      · have e0 : decide ((R j).2.2 ≠ 0) = true := by simp [hc]
        rw [e0] at c2
        have HCZ := hide hc
        clear e0 hc
        have HAN := hide (HNN.out (fun h => HCZ.out (HOK.out.1 h).1))
        go_wp2_with (go_at_call 52; refine (sr_ill 3 _).mono ?_; rintro e w6 ⟨rfl, hb6⟩; have HB6 := hide hb6; have HN6 := hide (HNB.out.keep (below_apart hb6) (by simp)); obtain ⟨m0, m1, m2, m3, m4, m5, fz⟩ := HN6.out; clear hb6; unfold netV)
        refine bodyPost_ret (v := .agg #[.slice none 0 0, .string ⟨#[]⟩, .string ⟨#[]⟩, .string ⟨#[]⟩, .int .i64 0, .int .i64 3]) (by simp [results, Tryz.results21, go_sem, m0, m1, m2, m3, m4, m5]; exact ⟨rfl, rfl, rfl, rfl⟩) rfl ⟨.slice none 0 0, ret_val ?_, ?_, (((((((HBEL.out.trans (HB6.out.mono HBEL.out.size)).setCell (Nat.le_refl _) _).setCell (Nat.le_refl _) _).setCell (Nat.le_refl _) _).setCell (Nat.le_refl _) _).setCell (Nat.le_refl _) _).setCell (Nat.le_refl _) _)⟩
        · rw [HAN.out.2]; rfl
        · rw [HAN.out.1]; exact RMsgOwn.nil _ _
end Go.Proofs.YtonafcifolddjaaGreatDoor
/- The specification's NetRead, of any text. -/
namespace Go.Proofs.YtonafcifolddjaaGreatDoor
open Go.RowKit
set_option maxRecDepth 100000 in
set_option maxHeartbeats 2000000 in
theorem s_netRead_any (t : ByteArray) (w : World) (hs : t.size ≤ maxLen) :
    Calls Tryz.prog 21 #[.string t] w fun e w' => ∃ v, e = .returned (netV v noRMsg (netC t)) ∧ RMsgOwn w' w.heap.size v (netL t) ∧ Below w.heap.size w w' := by
  by_cases h : 8000 < t.size
  · unfold maxLen at hs
    have HC : Hid (netC t = 2) := hide (if_pos h)
    have HL : Hid (netL t = []) := hide (if_pos h)
    have hn : NoB (w.alloc (.cells #[.slice none 0 0, .string ⟨#[]⟩, .string ⟨#[]⟩, .string ⟨#[]⟩, .int .i64 0, .int .i64 0] 29)) w.heap.size := by
      refine ⟨?_, ?_, ?_, ?_, ?_, ?_, ?_⟩
      all_goals simp
    have HN := hide hn
    clear hn
    go_enter Tryz.func21, Tryz.ntmps21
    go_wp2_with (go_at_call 52; refine (sr_ill 2 _).mono ?_; rintro e w6 ⟨rfl, hb6⟩; have HB6 := hide hb6; have HN6 := hide (HN.out.keep (below_apart hb6) (by simp)); obtain ⟨m0, m1, m2, m3, m4, m5, fz⟩ := HN6.out; clear hb6; unfold netV)
    refine bodyPost_ret (v := .agg #[.slice none 0 0, .string ⟨#[]⟩, .string ⟨#[]⟩, .string ⟨#[]⟩, .int .i64 0, .int .i64 2]) (by simp [results, Tryz.results21, go_sem, m0, m1, m2, m3, m4, m5]; exact ⟨rfl, rfl, rfl, rfl⟩) rfl ⟨.slice none 0 0, ret_val ?_, ?_, ((((((((malloc1 w _).trans (HB6.out.mono (by simp))).setCell (Nat.le_refl _) _).setCell (Nat.le_refl _) _).setCell (Nat.le_refl _) _).setCell (Nat.le_refl _) _).setCell (Nat.le_refl _) _).setCell (Nat.le_refl _) _)⟩
    · rw [HC.out]; rfl
    · rw [HL.out]; exact RMsgOwn.nil _ _
  · exact s_netRead t w (by omega)
theorem netL_len (t : ByteArray) : (netL t).length ≤ 36 := by
  unfold netL
  split
  · simp
  · split
    · rename_i h
      have h3 := ((okB_iff t).1 h).2.2
      exact net_len h3
    · simp
end Go.Proofs.YtonafcifolddjaaGreatDoor
