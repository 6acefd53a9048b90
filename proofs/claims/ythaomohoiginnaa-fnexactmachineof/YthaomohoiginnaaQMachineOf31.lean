/- The specification's maker of machines, in memory: where one comes first. -/
import Derived.Test.YthaomohoiginnaaQMachineOf30
import Derived.Test.YthaomohoiginnaaQMachineOf21
import Derived.Test.YthaomohoiginnaaQMachineOf24
import Derived.Test.YthaomohoiginnaaQMachineOf26
import Derived.Deep.DrawnRows
namespace Go.Proofs.Ythaomohoiginnaa
open Go.RowKit
attribute [local go_sem ↓] Go.wp_at_zero Go.wp_at_succ

/-- how many states are made of the first ones -/
def isSt (n : Nd) : Bool := n.op == 0 || n.op == 5 || n.op == 6
def cntS (all : List Nd) (pos : Nat) : Nat := ((all.take pos).filter isSt).length
theorem cntS_succ {all : List Nd} {pos : Nat} (h : pos < all.length) : cntS all (pos + 1) = cntS all pos + (if isSt all[pos] then 1 else 0) := by
  unfold cntS
  rw [List.take_succ_eq_append_getElem h, List.filter_append, List.length_append]
  cases hb : isSt all[pos] <;> simp [hb]
theorem cntS_le (all : List Nd) (pos : Nat) : cntS all pos ≤ pos := by
  unfold cntS
  have h1 := List.length_filter_le isSt (all.take pos)
  have h2 : (all.take pos).length ≤ pos := by simp; omega
  omega
/-- what first reads: the row, the names around and their first states -/
structure FirAt (w : World) (xb B : Nat) (all : List Nd) (ns : List ByteArray) (fis : List Int) : Prop where
  c0 : ∃ v, w.cell? ⟨xb, 0, none⟩ = some v ∧ SlAt w B v all
  nm : ∃ g cap, w.cell? ⟨xb, 4, none⟩ = some (.slice g ns.length cap) ∧ ∀ j (h : j < ns.length), ∃ b o, g = some ⟨b, o, none⟩ ∧ b < B ∧ w.cell? ⟨b, o + j, none⟩ = some (.string ns[j])
  fi : ∃ g cap, w.cell? ⟨xb, 5, none⟩ = some (.slice g fis.length cap) ∧ ∀ j (h : j < fis.length), ∃ b o, g = some ⟨b, o, none⟩ ∧ b < B ∧ w.cell? ⟨b, o + j, none⟩ = some (.int .i64 fis[j])
  lx : xb < B
theorem FirAt.below {w w' : World} {xb B : Nat} {all : List Nd} {ns : List ByteArray} {fis : List Int} (h : FirAt w xb B all ns fis) (hb : Below B w w') : FirAt w' xb B all ns fis := by
  obtain ⟨⟨v, h1, h2⟩, ⟨g, cap, h3, h4⟩, ⟨g', cap', h5, h6⟩, h7⟩ := h
  refine ⟨⟨v, (hb.cell (p := ⟨xb, 0, none⟩) h7).trans h1, h2.carry hb⟩, ⟨g, cap, (hb.cell (p := ⟨xb, 4, none⟩) h7).trans h3, fun j hj => ?_⟩, ⟨g', cap', (hb.cell (p := ⟨xb, 5, none⟩) h7).trans h5, fun j hj => ?_⟩, h7⟩
  · obtain ⟨b, o, e1, e2, e3⟩ := h4 j hj
    exact ⟨b, o, e1, e2, (hb.cell (p := ⟨b, o + j, none⟩) e2).trans e3⟩
  · obtain ⟨b, o, e1, e2, e3⟩ := h6 j hj
    exact ⟨b, o, e1, e2, (hb.cell (p := ⟨b, o + j, none⟩) e2).trans e3⟩
theorem look_at : ∀ {ns : List ByteArray} {fis : List Int} {t : ByteArray} {k : Nat}, fis.length = ns.length → (∀ j (h : j < ns.length), j < k → (ns[j].toList == t.toList) = false) → (hk : k < ns.length) → (ns[k].toList == t.toList) = true → ∀ (hf : k < fis.length), lookN ns fis t = fis[k]
  | x :: ns, z :: fis, t, 0, _, _, _, h, _ => by rw [lookN]; simp only [List.getElem_cons_zero] at h ⊢; rw [if_pos h]
  | x :: ns, z :: fis, t, k + 1, hl, hn, hk, h, hf => by
    have h0 := hn 0 (by simp) (by omega)
    simp only [List.getElem_cons_zero] at h0
    rw [lookN, h0]
    simp only [List.getElem_cons_succ] at h ⊢
    exact look_at (by simpa using hl) (fun j hj hjk => by have := hn (j + 1) (by simpa using hj) (by omega); simpa using this) (by simpa using hk) h (by simpa using hf)
theorem look_no {ns : List ByteArray} {fis : List Int} {t : ByteArray} (hn : ∀ j (h : j < ns.length), (ns[j].toList == t.toList) = false) : lookN ns fis t = 0 := by
  refine look_none ?_
  cases h : hasB ns t
  · rfl
  · simp only [hasB, List.any_eq_true] at h
    obtain ⟨x, hx, h2⟩ := h
    obtain ⟨j, hj, rfl⟩ := List.getElem_of_mem hx
    rw [hn j hj] at h2; cases h2
end Go.Proofs.Ythaomohoiginnaa
/- The specification's maker of machines: first. -/
namespace Go.Proofs.Ythaomohoiginnaa
open Go.RowKit
attribute [local go_sem ↓] Go.wp_at_zero Go.wp_at_succ

def FirstCalls (all : List Nd) (ns : List ByteArray) (fis : List Int) (d : Nat) : Prop := ∀ (pos xb B : Nat) (w : World), all.length - pos = d → ¬ (∀ n ∈ all.drop pos, n.op = 2) → FirAt w xb B all ns fis → B ≤ w.heap.size →
  Calls Try.prog 127 #[.pointer (some ⟨xb, 0, none⟩), .int .i64 (pos : Int)] w fun e w' => e = .returned (.int .i64 (firstOf ns fis (cntS all pos) (all.drop pos))) ∧ Below w.heap.size w w'
set_option maxRecDepth 100000 in
set_option maxHeartbeats 2000000 in
theorem first_var (all : List Nd) (ns : List ByteArray) (fis : List Int) (hl : fis.length = ns.length) (hns : ns.length ≤ 1000) (pos xb B : Nat) (w : World) (hpos : pos < all.length) (hall : all.length ≤ 400) (hop : all[pos].op = 1) (h : FirAt w xb B all ns fis) (hB : B ≤ w.heap.size) :
    Calls Try.prog 127 #[.pointer (some ⟨xb, 0, none⟩), .int .i64 (pos : Int)] w fun e w' => e = .returned (.int .i64 (lookN ns fis all[pos].name)) ∧ Below w.heap.size w w' := by
  have H := hide h
  obtain ⟨⟨v, c0, hsl⟩, ⟨gn, capn, c4, hnm⟩, ⟨gf, capf, c5, hfi⟩, hx⟩ := h
  obtain ⟨ao, cap, rfl, hc1, hc2, hr⟩ := hsl
  obtain ⟨b, o, rfl, hb, hrow⟩ := hr (by rintro rfl; simp at hpos)
  have hnode := hrow.get pos hpos
  obtain ⟨x1, hx1⟩ : ∃ x, x = all[pos] := ⟨_, rfl⟩
  rw [← hx1] at hnode hop ⊢
  obtain ⟨op, name, peer, many, sort⟩ := x1
  dsimp only at hop
  subst hop
  obtain ⟨d0, d1, d2, d3, d4⟩ := hnode
  dsimp only at d0 d1 d2 d3 d4
  have HNM := hide hnm
  have HFI := hide hfi
  have HBB := hide hB
  have HX := hide hx
  clear hx1 hrow hr
  go_enter Try.func127, Try.ntmps127
  go_wp2_with fail
  have HB1 : Hid (∀ o : Obj, Below w.heap.size w (w.alloc o)) := hide (malloc1 w)
  go_loopw [6] (fun i wr => ∃ k : Nat, k ≤ ns.length ∧ i = .int .i64 k ∧ (∀ j (h : j < ns.length), j < k → (ns[j].toList == name.toList) = false) ∧ wr.cell? ⟨w.heap.size, 1, none⟩ = some (.string name) ∧ Below w.heap.size w wr) (fun i _ => ns.length - (intOf i).toNat)
  case atStart => exact ⟨0, Nat.zero_le _, rfl, fun j _ h => absurd h (by omega), by simp, malloc1 w _⟩
  case round =>
    obtain ⟨k, hk, rfl, hno, hnc, hbel⟩ := hrel
    have HNO := hide hno
    have HBEL := hide hbel
    have HF := hide (H.out.below (hbel.mono HBB.out))
    have e0 := (hbel.cell (p := ⟨xb, 4, none⟩) (Nat.lt_of_lt_of_le HX.out HBB.out)).trans c4
    have e5 := (hbel.cell (p := ⟨xb, 5, none⟩) (Nat.lt_of_lt_of_le HX.out HBB.out)).trans c5
    clear hno hbel
    by_cases hlt : k < ns.length
    · obtain ⟨bn, on_, rfl, hbn, hcn⟩ := HNM.out k hlt
      have hltf : k < fis.length := by omega
      obtain ⟨bf, of_, rfl, hbf, hcf⟩ := HFI.out k hltf
      have n0 := (HBEL.out.cell (p := ⟨bn, on_ + k, none⟩) (Nat.lt_of_lt_of_le hbn HBB.out)).trans hcn
      have f0 := (HBEL.out.cell (p := ⟨bf, of_ + k, none⟩) (Nat.lt_of_lt_of_le hbf HBB.out)).trans hcf
      obtain ⟨s1, hs1⟩ : ∃ s, ns[k] = s := ⟨_, rfl⟩
      obtain ⟨z1, hz1⟩ : ∃ z, fis[k] = z := ⟨_, rfl⟩
      rw [hs1] at n0
      rw [hz1] at f0
      have HS1 := hide hs1
      have HZ1 := hide hz1
      clear hs1 hz1 hcn hcf
      cases heq : (s1.toList == name.toList)
      · go_wp2_with fail
        go_region
        go_wp2_with fail
        go_roundw
        case rel =>
          refine ⟨k + 1, hlt, by go_num, fun j hj hjk => ?_, hnc, HBEL.out.drew⟩
          by_cases hjk' : j = k
          · subst hjk'; rw [HS1.out]; exact heq
          · exact HNO.out j hj (by omega)
        case measure => simp [intOf]; omega
      · go_wp2_with fail
        go_region
        go_wp2_with fail
        go_ret
        refine ⟨ret_int ?_, HBEL.out.drew⟩
        rw [look_at hl HNO.out hlt (by rw [HS1.out]; exact heq) hltf, HZ1.out]
    · obtain rfl : k = ns.length := by omega
      go_wp2_with fail
      go_ret
      exact ⟨ret_int (look_no (fun j hj => HNO.out j hj hj)), HBEL.out⟩
set_option maxRecDepth 100000 in
set_option maxHeartbeats 2000000 in
theorem first_rec (all : List Nd) (ns : List ByteArray) (fis : List Int) (d : Nat) (hd : FirstCalls all ns fis d) (pos xb B : Nat) (w : World) (hpd : all.length - (pos + 1) = d) (hpos : pos < all.length) (hall : all.length ≤ 400) (hop : all[pos].op = 2) (hch : ¬ (∀ n ∈ all.drop (pos + 1), n.op = 2)) (h : FirAt w xb B all ns fis) (hB : B ≤ w.heap.size) :
    Calls Try.prog 127 #[.pointer (some ⟨xb, 0, none⟩), .int .i64 (pos : Int)] w fun e w' => e = .returned (.int .i64 (firstOf ns fis (cntS all (pos + 1)) (all.drop (pos + 1)))) ∧ Below w.heap.size w w' := by
  have H := hide h
  obtain ⟨⟨v, c0, hsl⟩, ⟨gn, capn, c4, hnm⟩, ⟨gf, capf, c5, hfi⟩, hx⟩ := h
  obtain ⟨ao, cap, rfl, hc1, hc2, hr⟩ := hsl
  obtain ⟨b, o, rfl, hb, hrow⟩ := hr (by rintro rfl; simp at hpos)
  have hnode := hrow.get pos hpos
  have HROW := hide hrow
  have HD : Hid (∀ o : Obj, Calls Try.prog 127 #[.pointer (some ⟨xb, 0, none⟩), .int .i64 ((pos : Int) + 1)] (w.alloc o) fun e w' => e = .returned (.int .i64 (firstOf ns fis (cntS all (pos + 1)) (all.drop (pos + 1)))) ∧ Below w.heap.size w w') := hide (fun ob => by
    have := hd (pos + 1) xb B (w.alloc ob) hpd hch (H.out.below ((malloc1 w ob).mono hB)) (by simp; omega)
    rw [show (((pos + 1 : Nat)) : Int) = (pos : Int) + 1 by omega] at this
    exact this.mono fun e w' ⟨h1, h2⟩ => ⟨h1, (malloc1 w ob).trans (h2.mono (by simp))⟩)
  obtain ⟨x1, hx1⟩ : ∃ x, x = all[pos] := ⟨_, rfl⟩
  rw [← hx1] at hnode hop
  obtain ⟨op, name, peer, many, sort⟩ := x1
  dsimp only at hop
  subst hop
  obtain ⟨d0, d1, d2, d3, d4⟩ := hnode
  dsimp only at d0 d1 d2 d3 d4
  clear hx1 hrow hr hd hch
  go_enter Try.func127, Try.ntmps127
  go_wp2_with (go_at_call 127; refine (HD.out _).mono ?_; rintro e w2 ⟨rfl, hb2⟩; have HB2 := hide hb2; clear hb2)
  go_ret
  exact ⟨rfl, HB2.out⟩
set_option maxRecDepth 100000 in
set_option maxHeartbeats 2000000 in
theorem first_st (all : List Nd) (ns : List ByteArray) (fis : List Int) (pos xb B : Nat) (w : World) (hpos : pos < all.length) (hall : all.length ≤ 400) (hop1 : all[pos].op ≠ 1) (hop2 : all[pos].op ≠ 2) (h : FirAt w xb B all ns fis) (hB : B ≤ w.heap.size) :
    Calls Try.prog 127 #[.pointer (some ⟨xb, 0, none⟩), .int .i64 (pos : Int)] w fun e w' => e = .returned (.int .i64 (cntS all pos : Int)) ∧ Below w.heap.size w w' := by
  have H := hide h
  obtain ⟨⟨v, c0, hsl⟩, ⟨gn, capn, c4, hnm⟩, ⟨gf, capf, c5, hfi⟩, hx⟩ := h
  obtain ⟨ao, cap, rfl, hc1, hc2, hr⟩ := hsl
  obtain ⟨b, o, rfl, hb, hrow⟩ := hr (by rintro rfl; simp at hpos)
  have hnode := hrow.get pos hpos
  have HROW := hide hrow
  have HX := hide hx
  have HBB := hide hB
  have HBL := hide hb
  obtain ⟨x1, hx1⟩ : ∃ x, x = all[pos] := ⟨_, rfl⟩
  rw [← hx1] at hnode hop1 hop2
  obtain ⟨op, name, peer, many, sort⟩ := x1
  dsimp only at hop1 hop2
  have e1 : (op == 1) = false := by simpa using hop1
  have e2 : (op == 2) = false := by simpa using hop2
  obtain ⟨d0, d1, d2, d3, d4⟩ := hnode
  dsimp only at d0 d1 d2 d3 d4
  clear hx1 hrow hr hop1 hop2
  go_enter Try.func127, Try.ntmps127
  go_wp2_with fail
  go_loopw [7, 8] (fun kv i wr => ∃ j : Nat, j ≤ pos ∧ i = .int .i64 j ∧ kv = .int .i64 (cntS all j : Int) ∧ Below w.heap.size w wr) (fun _ i _ => pos - (intOf i).toNat)
  case atStart => exact ⟨0, Nat.zero_le _, rfl, by simp [cntS], malloc1 w _⟩
  case round =>
    obtain ⟨j, hj, rfl, rfl, hbel⟩ := hrel
    have HBEL := hide hbel
    have g0 := (hbel.cell (p := ⟨xb, 0, none⟩) (Nat.lt_of_lt_of_le HX.out HBB.out)).trans c0
    have hcle := cntS_le all j
    clear hbel
    by_cases hlt : j < pos
    · have hja : j < all.length := by omega
      have hn2 := (HROW.out.get j hja).1
      have k0 := (HBEL.out.cell (p := ⟨b, o + j * 5, none⟩) (Nat.lt_of_lt_of_le HBL.out HBB.out)).trans hn2
      have HC := hide (cntS_succ hja)
      obtain ⟨op2, hop2⟩ : ∃ z, all[j].op = z := ⟨_, rfl⟩
      have HIS : Hid (isSt all[j] = (op2 == 0 || op2 == 5 || op2 == 6)) := hide (by unfold isSt; rw [hop2])
      rw [hop2] at k0
      clear hop2 hn2
      rw [HIS.out] at HC
      by_cases q0 : op2 = 0
      · subst q0
        go_wp2_with fail
        go_roundw
        case rel => exact ⟨j + 1, hlt, by go_num, by rw [HC.out]; simp, HBEL.out⟩
        case measure => simp [intOf]; omega
      · have r0 : (op2 == 0) = false := by simpa using q0
        by_cases q5 : op2 = 5
        · subst q5
          go_wp2_with fail
          go_roundw
          case rel => exact ⟨j + 1, hlt, by go_num, by rw [HC.out]; simp, HBEL.out⟩
          case measure => simp [intOf]; omega
        · have r5 : (op2 == 5) = false := by simpa using q5
          by_cases q6 : op2 = 6
          · subst q6
            go_wp2_with fail
            go_roundw
            case rel => exact ⟨j + 1, hlt, by go_num, by rw [HC.out]; simp, HBEL.out⟩
            case measure => simp [intOf]; omega
          · have r6 : (op2 == 6) = false := by simpa using q6
            go_wp2_with fail
            go_roundw
            case rel => exact ⟨j + 1, hlt, by go_num, by rw [HC.out, r0, r5, r6]; simp, HBEL.out⟩
            case measure => simp [intOf]; omega
    · obtain rfl : j = pos := by omega
      go_wp2_with fail
      go_ret
      exact ⟨rfl, HBEL.out⟩
theorem first_calls (all : List Nd) (ns : List ByteArray) (fis : List Int) (hl : fis.length = ns.length) (hns : ns.length ≤ 1000) (hall : all.length ≤ 400) : ∀ d, FirstCalls all ns fis d := by
  intro d
  induction d with
  | zero =>
    intro pos xb B w hd hch
    exact absurd (fun n hn => by rw [List.drop_eq_nil_of_le (by omega)] at hn; cases hn) hch
  | succ d ih =>
    intro pos xb B w hd hch h hB
    have hpos : pos < all.length := by omega
    have hdr : all.drop pos = all[pos] :: all.drop (pos + 1) := List.drop_eq_getElem_cons hpos
    by_cases h1 : all[pos].op = 1
    · have := first_var all ns fis hl hns pos xb B w hpos hall h1 h hB
      rw [hdr, firstOf, h1]
      exact this
    · by_cases h2 : all[pos].op = 2
      · have hch' : ¬ (∀ n ∈ all.drop (pos + 1), n.op = 2) := fun hh => hch (fun n hn => by
          rw [hdr] at hn
          rcases List.mem_cons.1 hn with rfl | hn
          · exact h2
          · exact hh n hn)
        have := first_rec all ns fis d ih pos xb B w (by omega) hpos hall h2 hch' h hB
        rw [cntS_succ hpos] at this
        have hs : isSt all[pos] = false := by unfold isSt; rw [h2]; rfl
        rw [hs] at this
        simp only [Bool.false_eq_true, if_false, Nat.add_zero] at this
        rw [hdr, firstOf, h2]
        exact this
      · have := first_st all ns fis pos xb B w hpos hall h1 h2 h hB
        have e1 : (all[pos].op == 1) = false := by simpa using h1
        have e2 : (all[pos].op == 2) = false := by simpa using h2
        rw [hdr, firstOf, e1, e2]
        exact this
end Go.Proofs.Ythaomohoiginnaa
