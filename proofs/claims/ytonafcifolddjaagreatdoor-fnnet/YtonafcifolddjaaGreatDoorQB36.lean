/- The program's unsealedMsg. -/
import Derived.Test.YtonafcifolddjaaGreatDoorQB35
import Derived.Deep.DrawnRows
import Derived.Deep.RegionWith
import Derived.Test.YtonafcifolddjaaGreatDoorQB24
import Derived.Test.YtonafcifolddjaaGreatDoorQB33
namespace Go.Proofs.YtonafcifolddjaaGreatDoor
open Go.RowKit
attribute [local go_sem ↓] Go.wp_at_zero Go.wp_at_succ

structure UnB (w : World) (b1 b2 : Nat) (u : ByteArray) (c : Int) : Prop where
  m0 : w.cell? ⟨b1, 0, none⟩ = some (.string ⟨#[]⟩)
  m1 : w.cell? ⟨b1, 1, none⟩ = some (.string ⟨#[]⟩)
  m2 : w.cell? ⟨b1, 2, none⟩ = some (.string ⟨#[]⟩)
  m3 : w.cell? ⟨b1, 3, none⟩ = some (.int .i64 0)
  g0 : w.frozen? ⟨b1, 0, none⟩ = false
  g1 : w.frozen? ⟨b1, 1, none⟩ = false
  g2 : w.frozen? ⟨b1, 2, none⟩ = false
  g3 : w.frozen? ⟨b1, 3, none⟩ = false
  t0 : w.cell? ⟨b2, 0, none⟩ = some (.string u)
  t1 : w.cell? ⟨b2, 1, none⟩ = some (.int .i64 0)
  t2 : w.cell? ⟨b2, 2, none⟩ = some (.int .i64 c)
theorem UnB.keep {w w' : World} {b1 b2 : Nat} {u : ByteArray} {c : Int} {l : List Nat} (h : UnB w b1 b2 u c) (ha : Apart w w' l) (h1 : b1 ∉ l) (h2 : b2 ∉ l) : UnB w' b1 b2 u c :=
  have hb : b1 < w.heap.size := World.block_lt_of_cell? w _ h.m0
  ⟨ha.cell' h.m0 h1, ha.cell' h.m1 h1, ha.cell' h.m2 h1, ha.cell' h.m3 h1, ha.frozen' hb h.g0 h1, ha.frozen' hb h.g1 h1, ha.frozen' hb h.g2 h1, ha.frozen' hb h.g3 h1, ha.cell' h.t0 h2, ha.cell' h.t1 h2, ha.cell' h.t2 h2⟩
def unW (w1 : World) (u : ByteArray) (c : Int) : World := (w1.alloc (.cells #[.string u, .int .i64 0, .int .i64 c] 86)).alloc (.cells #[.string u, .int .i64 0, .nilIface] 74)
theorem un_start (w w1 : World) (u : ByteArray) (c : Int) (hb : Below (w.heap.size + 1) (w.alloc (.cells #[.string ⟨#[]⟩, .string ⟨#[]⟩, .string ⟨#[]⟩, .int .i64 0] 25)) w1) :
    UnB (unW w1 u c) w.heap.size w1.heap.size u c ∧ RdAt (unW w1 u c) (w1.heap.size + 1) u 0 0 ∧ Below w.heap.size w (unW w1 u c) := by
  have hz : w.heap.size < w1.heap.size := by have := hb.size; simp at this; omega
  have hb2 : Below (w.heap.size + 1) (w.alloc (.cells #[.string ⟨#[]⟩, .string ⟨#[]⟩, .string ⟨#[]⟩, .int .i64 0] 25)) (unW w1 u c) := (hb.alloc (by omega) _).alloc (by simp; omega) _
  refine ⟨⟨?_, ?_, ?_, ?_, ?_, ?_, ?_, ?_, ?_, ?_, ?_⟩, ⟨?_, ?_, ?_, ?_, ?_⟩, ((Below.refl _ _).alloc (Nat.le_refl _) _).trans (hb2.mono (by omega))⟩
  · exact (hb2.cell (p := ⟨w.heap.size, 0, none⟩) (by simp)).trans (by simp)
  · exact (hb2.cell (p := ⟨w.heap.size, 1, none⟩) (by simp)).trans (by simp)
  · exact (hb2.cell (p := ⟨w.heap.size, 2, none⟩) (by simp)).trans (by simp)
  · exact (hb2.cell (p := ⟨w.heap.size, 3, none⟩) (by simp)).trans (by simp)
  · exact (hb2.frozen (p := ⟨w.heap.size, 0, none⟩) (by simp)).trans (by simp [World.frozen?_alloc_at])
  · exact (hb2.frozen (p := ⟨w.heap.size, 1, none⟩) (by simp)).trans (by simp [World.frozen?_alloc_at])
  · exact (hb2.frozen (p := ⟨w.heap.size, 2, none⟩) (by simp)).trans (by simp [World.frozen?_alloc_at])
  · exact (hb2.frozen (p := ⟨w.heap.size, 3, none⟩) (by simp)).trans (by simp [World.frozen?_alloc_at])
  · simp [unW]
  · simp [unW]
  · simp [unW]
  · simp [unW]
  · simp [unW]
  · simp [unW]; rfl
  · simp [unW, World.frozen?_alloc_at]
  · simp [unW, World.frozen?_alloc_at]
theorem unT_size (s : ByteArray) : (unT s).size ≤ 8000 := by
  unfold unT
  split
  · rw [ByteArray.size_extract]; omega
  · exact Nat.zero_le _
theorem wordI_at {t : ByteArray} {a c : Int} (h0 : 0 ≤ a) (h1 : a ≤ 8000) (hs : t.size ≤ 8000) : 0 ≤ (wordI t a c).2.1 ∧ (wordI t a c).2.1 ≤ 8000 := by
  unfold wordI
  split
  · have hf := getN_facts t a
    unfold getT
    split
    · simp
    · split
      · simp
      · split
        · simp
        · simp only; omega
  · exact ⟨h0, h1⟩
theorem apart_below {a b : World} {r N : Nat} (h : Apart a b [r]) (hr : N ≤ r) (hN : N ≤ a.heap.size) : Below N a b :=
  ⟨h.os, h.tape, h.output, h.size, fun k hk => h.block k (Nat.lt_of_lt_of_le hk hN) (by simp; omega)⟩
theorem un_below {w w1 w5 : World} {u : ByteArray} {c : Int} (h1 : Below w.heap.size w (unW w1 u c)) (h5 : Apart (unW w1 u c) w5 [w1.heap.size + 1]) (hz : w.heap.size < w1.heap.size) (o : Obj) : Below w.heap.size w (w5.alloc o) :=
  (h1.trans (apart_below h5 (by omega) h1.size)).alloc (Nat.le_trans h1.size h5.size) o
set_option maxRecDepth 100000 in
set_option maxHeartbeats 2000000 in
theorem i_unMsg (s : ByteArray) (w : World) (hs : s.size ≤ 8000) :
    Calls Tryz.prog 49 #[.string s] w fun e w' => e = .returned (unMsg s).val ∧ Below w.heap.size w w' := by
  have HU : Hid (∀ w, Calls Tryz.prog 80 #[.string s] w fun e w' => e = .returned (.agg #[.string (unT s), .int .i64 0, .int .i64 (unC s)]) ∧ Below w.heap.size w w') := hide (fun w => impl_unseal s w (by unfold maxLen; omega))
  clear hs
  obtain ⟨u, hu⟩ : ∃ u, unT s = u := ⟨_, rfl⟩
  obtain ⟨c, hc⟩ : ∃ c, unC s = c := ⟨_, rfl⟩
  obtain ⟨f, hf⟩ : ∃ f, wordI u 0 0 = f := ⟨_, rfl⟩
  obtain ⟨o, ho⟩ : ∃ o, wordI u f.2.1 f.2.2 = o := ⟨_, rfl⟩
  obtain ⟨l, hl⟩ : ∃ l, wordI u o.2.1 o.2.2 = l := ⟨_, rfl⟩
  obtain ⟨n, hn⟩ : ∃ n, numI u l.2.1 l.2.2 = n := ⟨_, rfl⟩
  have hus : u.size ≤ 8000 := hu ▸ unT_size s
  have bf := wordI_at (t := u) (a := 0) (c := 0) (by omega) (by omega) hus
  rw [hf] at bf
  have bo := wordI_at (t := u) (c := f.2.2) bf.1 bf.2 hus
  rw [ho] at bo
  have bl := wordI_at (t := u) (c := o.2.2) bo.1 bo.2 hus
  rw [hl] at bl
  have HV : Hid (unMsg s = if c = 0 ∧ n.2.2 = 0 ∧ n.2.1 = (u.size : Int) then ⟨f.1, o.1, l.1, n.1⟩ else noRMsg) := hide (by
    unfold unMsg; rw [hu, hc, rd4_of hf ho hl hn])
  have H0 : Hid (∀ rb w, RdAt w rb u 0 0 → Calls Tryz.prog 50 #[.pointer (some ⟨rb, 0, none⟩)] w fun e w' => e = .returned (.string f.1) ∧ RdAt w' rb u f.2.1 f.2.2 ∧ Apart w w' [rb]) := hide (fun rb w h => by have := rd_word u 0 0 rb w hus (by omega) h; rw [hf] at this; exact this)
  have H1 : Hid (∀ rb w, RdAt w rb u f.2.1 f.2.2 → Calls Tryz.prog 50 #[.pointer (some ⟨rb, 0, none⟩)] w fun e w' => e = .returned (.string o.1) ∧ RdAt w' rb u o.2.1 o.2.2 ∧ Apart w w' [rb]) := hide (fun rb w h => by have := rd_word u f.2.1 f.2.2 rb w hus bf.2 h; rw [ho] at this; exact this)
  have H2 : Hid (∀ rb w, RdAt w rb u o.2.1 o.2.2 → Calls Tryz.prog 50 #[.pointer (some ⟨rb, 0, none⟩)] w fun e w' => e = .returned (.string l.1) ∧ RdAt w' rb u l.2.1 l.2.2 ∧ Apart w w' [rb]) := hide (fun rb w h => by have := rd_word u o.2.1 o.2.2 rb w hus bo.2 h; rw [hl] at this; exact this)
  have H3 : Hid (∀ rb w, RdAt w rb u l.2.1 l.2.2 → Calls Tryz.prog 79 #[.pointer (some ⟨rb, 0, none⟩)] w fun e w' => e = .returned (.int .i64 n.1) ∧ RdAt w' rb u n.2.1 n.2.2 ∧ Apart w w' [rb]) := hide (fun rb w h => by have := rd_num u l.2.1 l.2.2 rb w hus bl.2 h; rw [hn] at this; exact this)
  rw [hu, hc] at HU
  clear hu hc hf ho hl hn hus bf bo bl
  by_cases hc0 : c = 0
  · subst hc0
    obtain ⟨q, hq⟩ : ∃ q, (decide (n.2.2 = 0) && decide (n.2.1 = (u.size : Int))) = q := ⟨_, rfl⟩
    have HQ := hide hq
    clear hq
    cases q
    · go_enter Tryz.func49, Tryz.ntmps49
      go_wp2_with (first
      | (go_at_call 51; refine (rd_whole (t := u) HQ.out _ (w5.alloc (.cells #[.string f.1, .string o.1, .string l.1, .int .i64 n.1] 25)) HR5.out).mono ?_; rintro e w6 ⟨rfl, hb6⟩; have HB6 := hide hb6; have HUB6 := hide (HUB5.out.keep (below_apart hb6) (by simp) (by simp)); obtain ⟨m0, m1, m2, m3, g0, g1, g2, g3, t0, t1, t2⟩ := HUB6.out; have k0 : w6.cell? ⟨w5.heap.size, 0, none⟩ = some (.string f.1) := (hb6.cell (p := ⟨w5.heap.size, 0, none⟩) (by simp)).trans (by simp); have k1 : w6.cell? ⟨w5.heap.size, 1, none⟩ = some (.string o.1) := (hb6.cell (p := ⟨w5.heap.size, 1, none⟩) (by simp)).trans (by simp); have k2 : w6.cell? ⟨w5.heap.size, 2, none⟩ = some (.string l.1) := (hb6.cell (p := ⟨w5.heap.size, 2, none⟩) (by simp)).trans (by simp); have k3 : w6.cell? ⟨w5.heap.size, 3, none⟩ = some (.int .i64 n.1) := (hb6.cell (p := ⟨w5.heap.size, 3, none⟩) (by simp)).trans (by simp); clear hb6)
      | (go_at_call 79; refine (H3.out _ _ HR4.out).mono ?_; rintro e w5 ⟨rfl, hr5, ha5⟩; have HA5 := hide (HA4.out.andThen' ha5); have HR5 := hide (hr5.keep (below_apart (malloc1 w5 (.cells #[.string f.1, .string o.1, .string l.1, .int .i64 n.1] 25))) (by simp)); have HUB5 := hide ((HUB1.out.keep HA5.out HD1.out HD2.out).keep (below_apart (malloc1 w5 (.cells #[.string f.1, .string o.1, .string l.1, .int .i64 n.1] 25))) (by simp) (by simp)); obtain ⟨m0, m1, m2, m3, g0, g1, g2, g3, t0, t1, t2⟩ := HUB5.out; clear hr5 ha5)
      | (go_at_call 50; refine (H2.out _ _ HR3.out).mono ?_; rintro e w4 ⟨rfl, hr4, ha4⟩; have HR4 := hide hr4; have HA4 := hide (HA3.out.andThen' ha4); clear hr4 ha4)
      | (go_at_call 50; refine (H1.out _ _ HR2.out).mono ?_; rintro e w3 ⟨rfl, hr3, ha3⟩; have HR3 := hide hr3; have HA3 := hide (HA2.out.andThen' ha3); clear hr3 ha3)
      | (go_at_call 50; refine (H0.out _ _ HR1.out).mono ?_; rintro e w2 ⟨rfl, hr2, ha2⟩; have HR2 := hide hr2; have HA2 := hide ha2; clear hr2 ha2)
      | (go_at_call 80; refine (HU.out _).mono ?_; rintro e w1 ⟨rfl, hb1⟩; obtain ⟨hub1, hr1, hbw1⟩ := un_start w w1 u 0 (hb1.mono (by simp)); have HZ : Hid (w.heap.size < w1.heap.size) := hide (by have := hb1.size; simp at this; omega); have HUB1 := hide hub1; have HR1 := hide hr1; have HBW1 := hide hbw1; have HD1 : Hid (w.heap.size ∉ [w1.heap.size + 1]) := hide (by have := HZ.out; simp; omega); have HD2 : Hid (w1.heap.size ∉ [w1.heap.size + 1]) := hide (by simp); clear hb1 hub1 hr1 hbw1))
      refine bodyPost_ret (v := .agg #[.string ⟨#[]⟩, .string ⟨#[]⟩, .string ⟨#[]⟩, .int .i64 0]) (by simp [results, Tryz.results49, go_sem, m0, m1, m2, m3]) rfl ⟨ret_val ?_, ((((((un_below HBW1.out HA5.out HZ.out _).trans (HB6.out.mono (un_below HBW1.out HA5.out HZ.out _).size)).setCell (Nat.le_refl _) _).setCell (Nat.le_refl _) _).setCell (Nat.le_refl _) _).setCell (Nat.le_refl _) _)⟩
      rw [HV.out, if_neg (by have := HQ.out; simp at this; exact fun h => this h.2.1 h.2.2)]
      rfl
    · go_enter Tryz.func49, Tryz.ntmps49
      go_wp2_with (first
      | (go_at_call 51; refine (rd_whole (t := u) HQ.out _ (w5.alloc (.cells #[.string f.1, .string o.1, .string l.1, .int .i64 n.1] 25)) HR5.out).mono ?_; rintro e w6 ⟨rfl, hb6⟩; have HB6 := hide hb6; have HUB6 := hide (HUB5.out.keep (below_apart hb6) (by simp) (by simp)); obtain ⟨m0, m1, m2, m3, g0, g1, g2, g3, t0, t1, t2⟩ := HUB6.out; have k0 : w6.cell? ⟨w5.heap.size, 0, none⟩ = some (.string f.1) := (hb6.cell (p := ⟨w5.heap.size, 0, none⟩) (by simp)).trans (by simp); have k1 : w6.cell? ⟨w5.heap.size, 1, none⟩ = some (.string o.1) := (hb6.cell (p := ⟨w5.heap.size, 1, none⟩) (by simp)).trans (by simp); have k2 : w6.cell? ⟨w5.heap.size, 2, none⟩ = some (.string l.1) := (hb6.cell (p := ⟨w5.heap.size, 2, none⟩) (by simp)).trans (by simp); have k3 : w6.cell? ⟨w5.heap.size, 3, none⟩ = some (.int .i64 n.1) := (hb6.cell (p := ⟨w5.heap.size, 3, none⟩) (by simp)).trans (by simp); clear hb6)
      | (go_at_call 79; refine (H3.out _ _ HR4.out).mono ?_; rintro e w5 ⟨rfl, hr5, ha5⟩; have HA5 := hide (HA4.out.andThen' ha5); have HR5 := hide (hr5.keep (below_apart (malloc1 w5 (.cells #[.string f.1, .string o.1, .string l.1, .int .i64 n.1] 25))) (by simp)); have HUB5 := hide ((HUB1.out.keep HA5.out HD1.out HD2.out).keep (below_apart (malloc1 w5 (.cells #[.string f.1, .string o.1, .string l.1, .int .i64 n.1] 25))) (by simp) (by simp)); obtain ⟨m0, m1, m2, m3, g0, g1, g2, g3, t0, t1, t2⟩ := HUB5.out; clear hr5 ha5)
      | (go_at_call 50; refine (H2.out _ _ HR3.out).mono ?_; rintro e w4 ⟨rfl, hr4, ha4⟩; have HR4 := hide hr4; have HA4 := hide (HA3.out.andThen' ha4); clear hr4 ha4)
      | (go_at_call 50; refine (H1.out _ _ HR2.out).mono ?_; rintro e w3 ⟨rfl, hr3, ha3⟩; have HR3 := hide hr3; have HA3 := hide (HA2.out.andThen' ha3); clear hr3 ha3)
      | (go_at_call 50; refine (H0.out _ _ HR1.out).mono ?_; rintro e w2 ⟨rfl, hr2, ha2⟩; have HR2 := hide hr2; have HA2 := hide ha2; clear hr2 ha2)
      | (go_at_call 80; refine (HU.out _).mono ?_; rintro e w1 ⟨rfl, hb1⟩; obtain ⟨hub1, hr1, hbw1⟩ := un_start w w1 u 0 (hb1.mono (by simp)); have HZ : Hid (w.heap.size < w1.heap.size) := hide (by have := hb1.size; simp at this; omega); have HUB1 := hide hub1; have HR1 := hide hr1; have HBW1 := hide hbw1; have HD1 : Hid (w.heap.size ∉ [w1.heap.size + 1]) := hide (by have := HZ.out; simp; omega); have HD2 : Hid (w1.heap.size ∉ [w1.heap.size + 1]) := hide (by simp); clear hb1 hub1 hr1 hbw1))
      refine bodyPost_ret (v := .agg #[.string f.1, .string o.1, .string l.1, .int .i64 n.1]) (by simp [results, Tryz.results49, go_sem, m0, m1, m2, m3]) rfl ⟨ret_val ?_, ((((((un_below HBW1.out HA5.out HZ.out _).trans (HB6.out.mono (un_below HBW1.out HA5.out HZ.out _).size)).setCell (Nat.le_refl _) _).setCell (Nat.le_refl _) _).setCell (Nat.le_refl _) _).setCell (Nat.le_refl _) _)⟩
      rw [HV.out, if_pos (by have := HQ.out; simp at this; simp [this])]
      rfl
  · have e1 : (c == 0) = false := by simpa using hc0
    go_enter Tryz.func49, Tryz.ntmps49
    go_wp2_with (first
      | (go_at_call 51; refine (rd_whole (t := u) HQ.out _ (w5.alloc (.cells #[.string f.1, .string o.1, .string l.1, .int .i64 n.1] 25)) HR5.out).mono ?_; rintro e w6 ⟨rfl, hb6⟩; have HB6 := hide hb6; have HUB6 := hide (HUB5.out.keep (below_apart hb6) (by simp) (by simp)); obtain ⟨m0, m1, m2, m3, g0, g1, g2, g3, t0, t1, t2⟩ := HUB6.out; have k0 : w6.cell? ⟨w5.heap.size, 0, none⟩ = some (.string f.1) := (hb6.cell (p := ⟨w5.heap.size, 0, none⟩) (by simp)).trans (by simp); have k1 : w6.cell? ⟨w5.heap.size, 1, none⟩ = some (.string o.1) := (hb6.cell (p := ⟨w5.heap.size, 1, none⟩) (by simp)).trans (by simp); have k2 : w6.cell? ⟨w5.heap.size, 2, none⟩ = some (.string l.1) := (hb6.cell (p := ⟨w5.heap.size, 2, none⟩) (by simp)).trans (by simp); have k3 : w6.cell? ⟨w5.heap.size, 3, none⟩ = some (.int .i64 n.1) := (hb6.cell (p := ⟨w5.heap.size, 3, none⟩) (by simp)).trans (by simp); clear hb6)
      | (go_at_call 79; refine (H3.out _ _ HR4.out).mono ?_; rintro e w5 ⟨rfl, hr5, ha5⟩; have HA5 := hide (HA4.out.andThen' ha5); have HR5 := hide (hr5.keep (below_apart (malloc1 w5 (.cells #[.string f.1, .string o.1, .string l.1, .int .i64 n.1] 25))) (by simp)); have HUB5 := hide ((HUB1.out.keep HA5.out HD1.out HD2.out).keep (below_apart (malloc1 w5 (.cells #[.string f.1, .string o.1, .string l.1, .int .i64 n.1] 25))) (by simp) (by simp)); obtain ⟨m0, m1, m2, m3, g0, g1, g2, g3, t0, t1, t2⟩ := HUB5.out; clear hr5 ha5)
      | (go_at_call 50; refine (H2.out _ _ HR3.out).mono ?_; rintro e w4 ⟨rfl, hr4, ha4⟩; have HR4 := hide hr4; have HA4 := hide (HA3.out.andThen' ha4); clear hr4 ha4)
      | (go_at_call 50; refine (H1.out _ _ HR2.out).mono ?_; rintro e w3 ⟨rfl, hr3, ha3⟩; have HR3 := hide hr3; have HA3 := hide (HA2.out.andThen' ha3); clear hr3 ha3)
      | (go_at_call 50; refine (H0.out _ _ HR1.out).mono ?_; rintro e w2 ⟨rfl, hr2, ha2⟩; have HR2 := hide hr2; have HA2 := hide ha2; clear hr2 ha2)
      | (go_at_call 80; refine (HU.out _).mono ?_; rintro e w1 ⟨rfl, hb1⟩; obtain ⟨hub1, hr1, hbw1⟩ := un_start w w1 u c (hb1.mono (by simp)); have HZ : Hid (w.heap.size < w1.heap.size) := hide (by have := hb1.size; simp at this; omega); have HUB1 := hide hub1; have HR1 := hide hr1; have HBW1 := hide hbw1; have HD1 : Hid (w.heap.size ∉ [w1.heap.size + 1]) := hide (by have := HZ.out; simp; omega); have HD2 : Hid (w1.heap.size ∉ [w1.heap.size + 1]) := hide (by simp); clear hb1 hub1 hr1 hbw1))
    refine bodyPost_ret (v := .agg #[.string ⟨#[]⟩, .string ⟨#[]⟩, .string ⟨#[]⟩, .int .i64 0]) (by simp [results, Tryz.results49, go_sem, m0, m1, m2, m3]) rfl ⟨ret_val ?_, (((((un_below HBW1.out HA5.out HZ.out _).setCell (Nat.le_refl _) _).setCell (Nat.le_refl _) _).setCell (Nat.le_refl _) _).setCell (Nat.le_refl _) _)⟩
    rw [HV.out, if_neg (fun h => hc0 h.1)]
    rfl
end Go.Proofs.YtonafcifolddjaaGreatDoor
/- An answer that a law keeps in a variable of its own. -/
namespace Go.Proofs.YtonafcifolddjaaGreatDoor
open Go.RowKit

def BoxAt (W : World) (b : Nat) (sv : Value) (M : RMsg) (C : Int) : Prop := W.cell? ⟨b, 0, none⟩ = some sv ∧ W.cell? ⟨b, 1, none⟩ = some (.string M.frm) ∧ W.cell? ⟨b, 2, none⟩ = some (.string M.to) ∧ W.cell? ⟨b, 3, none⟩ = some (.string M.label) ∧ W.cell? ⟨b, 4, none⟩ = some (.int .i64 M.sort) ∧ W.cell? ⟨b, 5, none⟩ = some (.int .i64 C)
theorem box_new (w : World) (sv : Value) (M : RMsg) (C : Int) : BoxAt (w.alloc (.cells #[sv, .string M.frm, .string M.to, .string M.label, .int .i64 M.sort, .int .i64 C] 29)) w.heap.size sv M C := by
  refine ⟨?_, ?_, ?_, ?_, ?_, ?_⟩ <;> simp
theorem BoxAt.keep {W W' : World} {b : Nat} {sv : Value} {M : RMsg} {C : Int} {l : List Nat} (h : BoxAt W b sv M C) (ha : Apart W W' l) (hn : b ∉ l) : BoxAt W' b sv M C := by
  obtain ⟨h0, h1, h2, h3, h4, h5⟩ := h
  exact ⟨ha.cellN h0 hn, ha.cellN h1 hn, ha.cellN h2 hn, ha.cellN h3 hn, ha.cellN h4 hn, ha.cellN h5 hn⟩
theorem BoxAt.carry {W W' : World} {b : Nat} {sv : Value} {M : RMsg} {C : Int} (h : BoxAt W b sv M C) (hb : Below W.heap.size W W') : BoxAt W' b sv M C := h.keep (below_apart hb) (by simp)
theorem BoxAt.lt {W : World} {b : Nat} {sv : Value} {M : RMsg} {C : Int} (h : BoxAt W b sv M C) : b < W.heap.size := World.block_lt_of_cell? W _ h.1
theorem below_markM {B : Nat} {w0 w1 w2 : World} {v : Value} {lo : Nat} (h1 : Below B w0 w1) (ha : Apart w1 w2 (vblocks v)) (hf : Fresh lo w1 v) (hl : B ≤ lo) (hB : B ≤ w0.heap.size) : Below B w0 w2 :=
  h1.trans (ha.below (Nat.le_trans hB h1.size) (fun b hb => Nat.le_trans hl (hf.lo b hb)))
end Go.Proofs.YtonafcifolddjaaGreatDoor
/- The specification's reader: how many. -/
namespace Go.Proofs.YtonafcifolddjaaGreatDoor
open Go.RowKit
attribute [local go_sem ↓] Go.wp_at_zero Go.wp_at_succ

theorem sd_is (n lo hi : Int) (w : World) :
    Calls Tryz.prog 57 #[.int .i64 n, .int .i64 lo, .int .i64 hi] w fun e w' => e = .returned (.bool (decide (lo ≤ n) && decide (n ≤ hi))) ∧ w' = w := by
  by_cases h : lo ≤ n
  all_goals
    go_enter Tryz.func57, Tryz.ntmps57
    go_wp2_with fail
    go_ret
    refine ⟨ret_bool ?_, rfl⟩
    simp [*]
    try omega

set_option maxRecDepth 100000 in
set_option maxHeartbeats 1000000 in
theorem sd_many (t : ByteArray) (a c most : Int) (rb : Nat) (w : World) (hs : t.size ≤ 8000) (h : SdAt w rb t a c) :
    Calls Tryz.prog 63 #[.pointer (some ⟨rb, 0, none⟩), .int .i64 most] w fun e w' => e = .returned (.int .i64 (cntI t a c most).1) ∧ SdAt w' rb t (cntI t a c most).2.1 (cntI t a c most).2.2 ∧ Apart w w' [rb] := by
  have HC : Hid (Calls Tryz.prog 66 #[.pointer (some ⟨rb, 0, none⟩)] w fun e w' => e = .returned (.int .i64 (numI t a c).1) ∧ SdAt w' rb t (numI t a c).2.1 (numI t a c).2.2 ∧ Apart w w' [rb]) := hide (sd_num t a c rb w hs h)
  have HE : Hid (cntI t a c most = if (numI t a c).1 < 0 ∨ most < (numI t a c).1 then (0, (numI t a c).2.1, 3) else ((numI t a c).1, (numI t a c).2.1, (numI t a c).2.2)) := hide rfl
  clear h hs
  generalize (numI t a c).1 = n at *
  generalize (numI t a c).2.1 = p at *
  generalize (numI t a c).2.2 = k at *
  by_cases h0 : n < 0 ∨ most < n
  · have HE' := hide (HE.out.trans (if_pos h0))
    have HI : Hid (∀ w, Calls Tryz.prog 57 #[.int .i64 n, .int .i64 0, .int .i64 most] w fun e w' => e = .returned (.bool false) ∧ w' = w) := hide (fun w => by
      have := sd_is n 0 most w
      rw [show (decide (0 ≤ n) && decide (n ≤ most)) = false by simp; omega] at this
      exact this)
    clear h0 HE
    go_enter Tryz.func63, Tryz.ntmps63
    go_wp2_with (first
      | (go_at_call 66; refine HC.out.mono ?_; rintro e w1 ⟨rfl, hr1, ha1⟩; have HR1 := hide hr1; have HA1 := hide ha1; obtain ⟨-, d0, d2, g1, g2⟩ := hr1; clear ha1)
      | (go_at_call 57; refine (HI.out _).mono ?_; rintro e w2 ⟨rfl, hw2⟩; subst hw2))
    go_ret
    obtain ⟨r1, r2⟩ := sd_bad (a' := p) (c' := 3) HR1.out (by omega)
    rw [HE'.out]
    exact ⟨rfl, r1, HA1.out.andThen' r2⟩
  · have HE' := hide (HE.out.trans (if_neg h0))
    have HI : Hid (∀ w, Calls Tryz.prog 57 #[.int .i64 n, .int .i64 0, .int .i64 most] w fun e w' => e = .returned (.bool true) ∧ w' = w) := hide (fun w => by
      have := sd_is n 0 most w
      rw [show (decide (0 ≤ n) && decide (n ≤ most)) = true by simp; omega] at this
      exact this)
    clear h0 HE
    go_enter Tryz.func63, Tryz.ntmps63
    go_wp2_with (first
      | (go_at_call 66; refine HC.out.mono ?_; rintro e w1 ⟨rfl, hr1, ha1⟩; have HR1 := hide hr1; have HA1 := hide ha1; obtain ⟨-, d0, d2, g1, g2⟩ := hr1; clear ha1)
      | (go_at_call 57; refine (HI.out _).mono ?_; rintro e w2 ⟨rfl, hw2⟩; subst hw2))
    go_ret
    rw [HE'.out]
    exact ⟨rfl, HR1.out, HA1.out⟩
end Go.Proofs.YtonafcifolddjaaGreatDoor
