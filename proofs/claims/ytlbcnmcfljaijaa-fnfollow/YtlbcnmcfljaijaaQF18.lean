import Derived.Test.YtlbcnmcfljaijaaQF10
import Derived.Maps.AppendAt
import Derived.Test.YtlbcnmcfljaijaaQF16
import Derived.Test.YtlbcnmcfljaijaaQF13
import Derived.Test.YtlbcnmcfljaijaaQF04
import Derived.Test.YtlbcnmcfljaijaaQF00
import Derived.Deep.RegionLaw
import Derived.Test.YtlbcnmcfljaijaaQF03
import Derived.Test.YtlbcnmcfljaijaaQF17
import Derived.Test.YtlbcnmcfljaijaaQF02
namespace Go.Proofs.Ytlbcnmcfljaijaa
open Go.RowKit

def Nd.fit (n : Nd) : Prop := n.name.size ≤ 1048576 ∧ n.peer.size ≤ 1048576
theorem Nd.fit.ok {n : Nd} (h : n.fit) : n.ok := ⟨Nat.le_trans h.1 (by unfold maxLen; omega), Nat.le_trans h.2 (by unfold maxLen; omega)⟩
theorem TextsAt.grown {w w' : World} {v : Value} {ls : List ByteArray} {row : Option Nat} (h : TextsAt w v ls) (hg : w.grownBy w' row) (hne : ∀ b, v.ownBlock = some b → some b ≠ row) : TextsAt w' v ls := by
  obtain ⟨ao, cap, rfl, h2, h3, h4⟩ := h
  refine ⟨ao, cap, rfl, h2, h3, fun hn => ?_⟩
  obtain ⟨b, o, rfl, hr⟩ := h4 hn
  exact ⟨b, o, rfl, fun i hi => (grow_cell hg ⟨b, _, none⟩ (World.block_lt_of_cell? w _ (hr i hi)) (hne b rfl)).trans (hr i hi)⟩
end Go.Proofs.Ytlbcnmcfljaijaa
namespace Go.Proofs.Ytlbcnmcfljaijaa
open Go.RowKit
attribute [local go_sem ↓] Go.wp_at_zero Go.wp_at_succ

def FirstCalls (all : List Nd) (ns : List ByteArray) (fis : List Int) (d : Nat) : Prop := ∀ (pos xb B : Nat) (w : World), all.length - pos = d → ¬ (∀ n ∈ all.drop pos, n.op = 2) → FirAt w xb B all ns fis → B ≤ w.heap.size →
  Calls Try.prog 54 #[.pointer (some ⟨xb, 0, none⟩), .int .i64 (pos : Int)] w fun e w' => e = .returned (.int .i64 (firstOf ns fis (cntS all pos) (all.drop pos))) ∧ Below w.heap.size w w'
set_option maxRecDepth 100000 in
set_option maxHeartbeats 2000000 in
theorem first_var (all : List Nd) (ns : List ByteArray) (fis : List Int) (hl : fis.length = ns.length) (hns : ns.length ≤ 1000) (pos xb B : Nat) (w : World) (hpos : pos < all.length) (hall : all.length ≤ 400) (hop : all[pos].op = 1) (h : FirAt w xb B all ns fis) (hB : B ≤ w.heap.size) :
    Calls Try.prog 54 #[.pointer (some ⟨xb, 0, none⟩), .int .i64 (pos : Int)] w fun e w' => e = .returned (.int .i64 (lookN ns fis all[pos].name)) ∧ Below w.heap.size w w' := by
  have H := hide h
  obtain ⟨⟨v, c0, hsl⟩, ⟨gn, capn, c4, hnm⟩, ⟨gf, capf, c5, hfi⟩, hx⟩ := h
  obtain ⟨ao, cap, rfl, hc1, hc2, hr⟩ := hsl
  obtain ⟨b, o, rfl, hb, hrow⟩ := hr (by rintro rfl; simp at hpos)
  have hnode := hrow.get pos hpos
  obtain ⟨x1, hx1⟩ : ∃ x, x = all[pos] := ⟨_, rfl⟩
  rw [← hx1] at hnode hop ⊢
  obtain ⟨op, name, peer, many, sort⟩ := x1
  dsimp only at hop
  subst hop
  obtain ⟨d0, d1, d2, d3, d4⟩ := hnode
  dsimp only at d0 d1 d2 d3 d4
  have HNM := hide hnm
  have HFI := hide hfi
  have HBB := hide hB
  have HX := hide hx
  clear hx1 hrow hr
  go_enter Try.func54, Try.ntmps54
  go_wp2_with fail
  have HB1 : Hid (∀ o : Obj, Below w.heap.size w (w.alloc o)) := hide (malloc1 w)
  go_loopw [6] (fun i wr => ∃ k : Nat, k ≤ ns.length ∧ i = .int .i64 k ∧ (∀ j (h : j < ns.length), j < k → (ns[j].toList == name.toList) = false) ∧ wr.cell? ⟨w.heap.size, 1, none⟩ = some (.string name) ∧ Below w.heap.size w wr) (fun i _ => ns.length - (intOf i).toNat)
  case atStart => exact ⟨0, Nat.zero_le _, rfl, fun j _ h => absurd h (by omega), by simp, malloc1 w _⟩
  case round =>
    obtain ⟨k, hk, rfl, hno, hnc, hbel⟩ := hrel
    have HNO := hide hno
    have HBEL := hide hbel
    have HF := hide (H.out.below (hbel.mono HBB.out))
    have e0 := (hbel.cell (p := ⟨xb, 4, none⟩) (Nat.lt_of_lt_of_le HX.out HBB.out)).trans c4
    have e5 := (hbel.cell (p := ⟨xb, 5, none⟩) (Nat.lt_of_lt_of_le HX.out HBB.out)).trans c5
    clear hno hbel
    by_cases hlt : k < ns.length
    · obtain ⟨bn, on_, rfl, hbn, hcn⟩ := HNM.out k hlt
      have hltf : k < fis.length := by omega
      obtain ⟨bf, of_, rfl, hbf, hcf⟩ := HFI.out k hltf
      have n0 := (HBEL.out.cell (p := ⟨bn, on_ + k, none⟩) (Nat.lt_of_lt_of_le hbn HBB.out)).trans hcn
      have f0 := (HBEL.out.cell (p := ⟨bf, of_ + k, none⟩) (Nat.lt_of_lt_of_le hbf HBB.out)).trans hcf
      obtain ⟨s1, hs1⟩ : ∃ s, ns[k] = s := ⟨_, rfl⟩
      obtain ⟨z1, hz1⟩ : ∃ z, fis[k] = z := ⟨_, rfl⟩
      rw [hs1] at n0
      rw [hz1] at f0
      have HS1 := hide hs1
      have HZ1 := hide hz1
      clear hs1 hz1 hcn hcf
      cases heq : (s1.toList == name.toList)
      · go_wp2_with fail
        go_region
        go_wp2_with fail
        go_roundw
        case rel =>
          refine ⟨k + 1, hlt, by go_num, fun j hj hjk => ?_, hnc, HBEL.out.drew⟩
          by_cases hjk' : j = k
          · subst hjk'; rw [HS1.out]; exact heq
          · exact HNO.out j hj (by omega)
        case measure => simp [intOf]; omega
      · go_wp2_with fail
        go_region
        go_wp2_with fail
        go_ret
        refine ⟨ret_int ?_, HBEL.out.drew⟩
        rw [look_at hl HNO.out hlt (by rw [HS1.out]; exact heq) hltf, HZ1.out]
    · obtain rfl : k = ns.length := by omega
      go_wp2_with fail
      go_ret
      exact ⟨ret_int (look_no (fun j hj => HNO.out j hj hj)), HBEL.out⟩
set_option maxRecDepth 100000 in
set_option maxHeartbeats 2000000 in
theorem first_rec (all : List Nd) (ns : List ByteArray) (fis : List Int) (d : Nat) (hd : FirstCalls all ns fis d) (pos xb B : Nat) (w : World) (hpd : all.length - (pos + 1) = d) (hpos : pos < all.length) (hall : all.length ≤ 400) (hop : all[pos].op = 2) (hch : ¬ (∀ n ∈ all.drop (pos + 1), n.op = 2)) (h : FirAt w xb B all ns fis) (hB : B ≤ w.heap.size) :
    Calls Try.prog 54 #[.pointer (some ⟨xb, 0, none⟩), .int .i64 (pos : Int)] w fun e w' => e = .returned (.int .i64 (firstOf ns fis (cntS all (pos + 1)) (all.drop (pos + 1)))) ∧ Below w.heap.size w w' := by
  have H := hide h
  obtain ⟨⟨v, c0, hsl⟩, ⟨gn, capn, c4, hnm⟩, ⟨gf, capf, c5, hfi⟩, hx⟩ := h
  obtain ⟨ao, cap, rfl, hc1, hc2, hr⟩ := hsl
  obtain ⟨b, o, rfl, hb, hrow⟩ := hr (by rintro rfl; simp at hpos)
  have hnode := hrow.get pos hpos
  have HROW := hide hrow
  have HD : Hid (∀ o : Obj, Calls Try.prog 54 #[.pointer (some ⟨xb, 0, none⟩), .int .i64 ((pos : Int) + 1)] (w.alloc o) fun e w' => e = .returned (.int .i64 (firstOf ns fis (cntS all (pos + 1)) (all.drop (pos + 1)))) ∧ Below w.heap.size w w') := hide (fun ob => by
    have := hd (pos + 1) xb B (w.alloc ob) hpd hch (H.out.below ((malloc1 w ob).mono hB)) (by simp; omega)
    rw [show (((pos + 1 : Nat)) : Int) = (pos : Int) + 1 by omega] at this
    exact this.mono fun e w' ⟨h1, h2⟩ => ⟨h1, (malloc1 w ob).trans (h2.mono (by simp))⟩)
  obtain ⟨x1, hx1⟩ : ∃ x, x = all[pos] := ⟨_, rfl⟩
  rw [← hx1] at hnode hop
  obtain ⟨op, name, peer, many, sort⟩ := x1
  dsimp only at hop
  subst hop
  obtain ⟨d0, d1, d2, d3, d4⟩ := hnode
  dsimp only at d0 d1 d2 d3 d4
  clear hx1 hrow hr hd hch
  go_enter Try.func54, Try.ntmps54
  go_wp2_with (go_at_call 54; refine (HD.out _).mono ?_; rintro e w2 ⟨rfl, hb2⟩; have HB2 := hide hb2; clear hb2)
  go_ret
  exact ⟨rfl, HB2.out⟩
set_option maxRecDepth 100000 in
set_option maxHeartbeats 2000000 in
theorem first_st (all : List Nd) (ns : List ByteArray) (fis : List Int) (pos xb B : Nat) (w : World) (hpos : pos < all.length) (hall : all.length ≤ 400) (hop1 : all[pos].op ≠ 1) (hop2 : all[pos].op ≠ 2) (h : FirAt w xb B all ns fis) (hB : B ≤ w.heap.size) :
    Calls Try.prog 54 #[.pointer (some ⟨xb, 0, none⟩), .int .i64 (pos : Int)] w fun e w' => e = .returned (.int .i64 (cntS all pos : Int)) ∧ Below w.heap.size w w' := by
  have H := hide h
  obtain ⟨⟨v, c0, hsl⟩, ⟨gn, capn, c4, hnm⟩, ⟨gf, capf, c5, hfi⟩, hx⟩ := h
  obtain ⟨ao, cap, rfl, hc1, hc2, hr⟩ := hsl
  obtain ⟨b, o, rfl, hb, hrow⟩ := hr (by rintro rfl; simp at hpos)
  have hnode := hrow.get pos hpos
  have HROW := hide hrow
  have HX := hide hx
  have HBB := hide hB
  have HBL := hide hb
  obtain ⟨x1, hx1⟩ : ∃ x, x = all[pos] := ⟨_, rfl⟩
  rw [← hx1] at hnode hop1 hop2
  obtain ⟨op, name, peer, many, sort⟩ := x1
  dsimp only at hop1 hop2
  have e1 : (op == 1) = false := by simpa using hop1
  have e2 : (op == 2) = false := by simpa using hop2
  obtain ⟨d0, d1, d2, d3, d4⟩ := hnode
  dsimp only at d0 d1 d2 d3 d4
  clear hx1 hrow hr hop1 hop2
  go_enter Try.func54, Try.ntmps54
  go_wp2_with fail
  go_loopw [7, 8] (fun kv i wr => ∃ j : Nat, j ≤ pos ∧ i = .int .i64 j ∧ kv = .int .i64 (cntS all j : Int) ∧ Below w.heap.size w wr) (fun _ i _ => pos - (intOf i).toNat)
  case atStart => exact ⟨0, Nat.zero_le _, rfl, by simp [cntS], malloc1 w _⟩
  case round =>
    obtain ⟨j, hj, rfl, rfl, hbel⟩ := hrel
    have HBEL := hide hbel
    have g0 := (hbel.cell (p := ⟨xb, 0, none⟩) (Nat.lt_of_lt_of_le HX.out HBB.out)).trans c0
    have hcle := cntS_le all j
    clear hbel
    by_cases hlt : j < pos
    · have hja : j < all.length := by omega
      have hn2 := (HROW.out.get j hja).1
      have k0 := (HBEL.out.cell (p := ⟨b, o + j * 5, none⟩) (Nat.lt_of_lt_of_le HBL.out HBB.out)).trans hn2
      have HC := hide (cntS_succ hja)
      obtain ⟨op2, hop2⟩ : ∃ z, all[j].op = z := ⟨_, rfl⟩
      have HIS : Hid (isSt all[j] = (op2 == 0 || op2 == 5 || op2 == 6)) := hide (by unfold isSt; rw [hop2])
      rw [hop2] at k0
      clear hop2 hn2
      rw [HIS.out] at HC
      by_cases q0 : op2 = 0
      · subst q0
        go_wp2_with fail
        go_roundw
        case rel => exact ⟨j + 1, hlt, by go_num, by rw [HC.out]; simp, HBEL.out⟩
        case measure => simp [intOf]; omega
      · have r0 : (op2 == 0) = false := by simpa using q0
        by_cases q5 : op2 = 5
        · subst q5
          go_wp2_with fail
          go_roundw
          case rel => exact ⟨j + 1, hlt, by go_num, by rw [HC.out]; simp, HBEL.out⟩
          case measure => simp [intOf]; omega
        · have r5 : (op2 == 5) = false := by simpa using q5
          by_cases q6 : op2 = 6
          · subst q6
            go_wp2_with fail
            go_roundw
            case rel => exact ⟨j + 1, hlt, by go_num, by rw [HC.out]; simp, HBEL.out⟩
            case measure => simp [intOf]; omega
          · have r6 : (op2 == 6) = false := by simpa using q6
            go_wp2_with fail
            go_roundw
            case rel => exact ⟨j + 1, hlt, by go_num, by rw [HC.out, r0, r5, r6]; simp, HBEL.out⟩
            case measure => simp [intOf]; omega
    · obtain rfl : j = pos := by omega
      go_wp2_with fail
      go_ret
      exact ⟨rfl, HBEL.out⟩
theorem first_calls (all : List Nd) (ns : List ByteArray) (fis : List Int) (hl : fis.length = ns.length) (hns : ns.length ≤ 1000) (hall : all.length ≤ 400) : ∀ d, FirstCalls all ns fis d := by
  intro d
  induction d with
  | zero =>
    intro pos xb B w hd hch
    exact absurd (fun n hn => by rw [List.drop_eq_nil_of_le (by omega)] at hn; cases hn) hch
  | succ d ih =>
    intro pos xb B w hd hch h hB
    have hpos : pos < all.length := by omega
    have hdr : all.drop pos = all[pos] :: all.drop (pos + 1) := List.drop_eq_getElem_cons hpos
    by_cases h1 : all[pos].op = 1
    · have := first_var all ns fis hl hns pos xb B w hpos hall h1 h hB
      rw [hdr, firstOf, h1]
      exact this
    · by_cases h2 : all[pos].op = 2
      · have hch' : ¬ (∀ n ∈ all.drop (pos + 1), n.op = 2) := fun hh => hch (fun n hn => by
          rw [hdr] at hn
          rcases List.mem_cons.1 hn with rfl | hn
          · exact h2
          · exact hh n hn)
        have := first_rec all ns fis d ih pos xb B w (by omega) hpos hall h2 hch' h hB
        rw [cntS_succ hpos] at this
        have hs : isSt all[pos] = false := by unfold isSt; rw [h2]; rfl
        rw [hs] at this
        simp only [Bool.false_eq_true, if_false, Nat.add_zero] at this
        rw [hdr, firstOf, h2]
        exact this
      · have := first_st all ns fis pos xb B w hpos hall h1 h2 h hB
        have e1 : (all[pos].op == 1) = false := by simpa using h1
        have e2 : (all[pos].op == 2) = false := by simpa using h2
        rw [hdr, firstOf, e1, e2]
        exact this
end Go.Proofs.Ytlbcnmcfljaijaa
namespace Go.Proofs.Ytlbcnmcfljaijaa
open Go.RowKit

def cntL (l : List Nd) : Nat := (l.filter isSt).length
theorem cntL_cons (n : Nd) (l : List Nd) : cntL (n :: l) = cntL l + (if isSt n then 1 else 0) := by
  unfold cntL
  cases h : isSt n <;> simp [h]
theorem cntS_drop (all : List Nd) (pos : Nat) : cntS all pos + cntL (all.drop pos) = cntL all := by
  unfold cntS cntL
  rw [← List.length_append, ← List.filter_append, List.take_append_drop]
structure SvGrows (l r : List Nd) (S : List RState × List REdge) (o : List Nd × List RState × List REdge) : Prop where
  rest : o.1 = r
  sts : o.2.1.length + cntL r = S.1.length + cntL l
  eds : o.2.2.length + r.length ≤ S.2.length + l.length
theorem insE_len (e : REdge) (l : List REdge) : (insE e l).length = l.length + 1 := by
  have := congrArg List.length (List.takeWhile_append_dropWhile (p := fun x => mlessE x e) (l := l))
  simp only [insE, List.length_append, List.length_cons] at *
  omega
def SvOk (f : Nat) : Prop := ∀ (st l r : List Nd) (ns : List ByteArray) (fis : List Int) (S : List RState × List REdge), ahead (talkS true) f st l = some r → SvGrows l r S (sv f ns fis l S)
theorem svKids_ok {f : Nat} (hf : SvOk f) (st : List Nd) (ns : List ByteArray) (fis : List Int) (s : Int) : ∀ (m : Nat) (ls : List ByteArray) (l r : List Nd) (S : List RState × List REdge), kidsBy (ahead (talkS true) f st) m ls l = some r → SvGrows l r S (svKids (sv f ns fis) (fun l k => firstOf ns fis k l) s m l S)
  | 0, ls, l, r, S, h => by
    rw [kidsBy] at h
    injection h with h
    subst h
    exact ⟨rfl, rfl, Nat.le_refl _⟩
  | m + 1, ls, [], r, S, h => by cases h
  | m + 1, ls, c :: l, r, S, h => by
    rw [kidsBy] at h
    split at h
    · rename_i hc
      split at h
      · cases h
      · rename_i r1 hr1
        have g1 := hf st l r1 ns fis (S.1, insE ⟨s, c.name, c.sort, firstOf ns fis S.1.length l⟩ S.2) hr1
        have hc4 : isSt c = false := by
          simp only [caseB, Bool.and_eq_true, beq_iff_eq] at hc
          unfold isSt
          rw [hc.1.1.1.1.1]
          rfl
        have e : svKids (sv f ns fis) (fun l k => firstOf ns fis k l) s (m + 1) (c :: l) S = svKids (sv f ns fis) (fun l k => firstOf ns fis k l) s m (sv f ns fis l (S.1, insE ⟨s, c.name, c.sort, firstOf ns fis S.1.length l⟩ S.2)).1 (sv f ns fis l (S.1, insE ⟨s, c.name, c.sort, firstOf ns fis S.1.length l⟩ S.2)).2 := rfl
        rw [e]
        obtain ⟨X, hX⟩ : ∃ X, sv f ns fis l (S.1, insE ⟨s, c.name, c.sort, firstOf ns fis S.1.length l⟩ S.2) = X := ⟨_, rfl⟩
        rw [hX] at g1 ⊢
        obtain rfl : X.1 = r1 := g1.rest
        have g2 := svKids_ok hf st ns fis s m (ls ++ [c.name]) X.1 r X.2 h
        refine ⟨g2.rest, ?_, ?_⟩
        · have h1 := g1.sts
          have h2 := g2.sts
          rw [cntL_cons, hc4]
          simp only [Bool.false_eq_true, if_false]
          dsimp only at h1
          omega
        · have h1 := g1.eds
          have h2 := g2.eds
          dsimp only at h1
          rw [insE_len] at h1
          simp only [List.length_cons]
          omega
    · cases h
theorem sv_ok : ∀ f : Nat, SvOk f := by
  intro f
  induction f with
  | zero =>
    intro st l r ns fis S h
    cases l with
    | nil => cases h
    | cons n l =>
      rw [sv]
      by_cases h1 : n.op = 1
      · rw [if_pos (by simpa using h1)]
        rw [ahead_1 h1] at h
        split at h
        · injection h with h
          subst h
          exact ⟨rfl, by rw [cntL_cons]; simp [isSt, h1], by simp⟩
        · cases h
      · rw [if_neg (by simpa using h1)]
        by_cases h0 : n.op = 0
        · rw [ahead_0 h0] at h
          split at h
          · injection h with h
            subst h
            exact ⟨rfl, by rw [cntL_cons]; simp [isSt, h0]; omega, by simp⟩
          · cases h
        · rw [ahead_t0 h0 h1] at h; cases h
  | succ f ih =>
    intro st l r ns fis S h
    cases l with
    | nil => cases h
    | cons n l =>
      rw [sv]
      by_cases h1 : n.op = 1
      · rw [if_pos (by simpa using h1)]
        rw [ahead_1 h1] at h
        split at h
        · injection h with h
          subst h
          exact ⟨rfl, by rw [cntL_cons]; simp [isSt, h1], by simp⟩
        · cases h
      · rw [if_neg (by simpa using h1)]
        by_cases h2 : n.op = 2
        · rw [if_pos (by simpa using h2)]
          rw [ahead_2 h2] at h
          split at h
          · have g := ih _ l r (ns ++ [n.name]) (fis ++ [firstOf (ns ++ [n.name]) (fis ++ [0]) S.1.length l]) S h
            exact ⟨g.rest, by have := g.sts; rw [cntL_cons]; simp [isSt, h2]; exact this, by have := g.eds; simp only [List.length_cons]; omega⟩
          · cases h
        · rw [if_neg (by simpa using h2)]
          by_cases h0 : n.op = 0
          · rw [ahead_0 h0] at h
            split at h
            · rename_i he
              injection h with h
              subst h
              have hm : n.many = 0 := by
                simp only [endB, Bool.and_eq_true, beq_iff_eq] at he
                exact he.1.2
              rw [hm]
              exact ⟨rfl, by rw [cntL_cons]; simp [isSt, h0, svKids]; omega, by simp [svKids]⟩
            · cases h
          · rw [ahead_t h0 h1 h2] at h
            split at h
            · rename_i ht
              have g := svKids_ok ih (n :: st) ns fis (S.1.length : Int) n.many.toNat [] l r (S.1 ++ [⟨kindW n.op, n.peer⟩], S.2) h
              have hs : isSt n = true := by
                simp only [talkS, Bool.and_eq_true, Bool.or_eq_true, beq_iff_eq, if_true] at ht
                unfold isSt
                rcases ht.2.2 with e | e <;> rw [e] <;> rfl
              exact ⟨g.rest, by have := g.sts; rw [cntL_cons, hs]; simp only [List.length_append, List.length_cons, List.length_nil, if_true] at *; omega, by have := g.eds; simp only [List.length_cons] at *; omega⟩
            · cases h
theorem left_at {all r : List Nd} {pos : Nat} (h : r <:+ all.drop pos) : r = all.drop (all.length - r.length) ∧ all.length - r.length ≤ all.length ∧ r.length ≤ all.length - pos := by
  have h1 := h.trans (List.drop_suffix pos all)
  have h2 := h.length_le
  rw [List.length_drop] at h2
  exact ⟨List.suffix_iff_eq_drop.1 h1, by omega, h2⟩
end Go.Proofs.Ytlbcnmcfljaijaa
namespace Go.Proofs.Ytlbcnmcfljaijaa
open Go.RowKit
attribute [local go_sem ↓] Go.wp_at_zero Go.wp_at_succ

end Go.Proofs.Ytlbcnmcfljaijaa
namespace Go.Proofs.Ytlbcnmcfljaijaa
open Go.RowKit Go.Maps
attribute [local go_sem ↓] Go.wp_at_zero Go.wp_at_succ

def GraphAt (w : World) (m : Mach) (es : List REdge) (b n : Nat) : Prop :=
  ∃ D : DataW Unit, w.ownsMap Try.prog 76 (plainElem Try.prog 2) b n D ∧ ∀ f a kl, keyOf Try.prog 76 (turnV f a) = some kl →
    (Maps.has D kl = true → ∃ e ∈ es, e.src = f ∧ actE m f e = a ∧ ∀ z, D.atKey kl z = .lit (.int .i64 e.dst)) ∧ (Maps.has D kl = false → ∀ e ∈ es, ¬ (e.src = f ∧ actE m f e = a))
theorem turnV_inj {f f' : Int} {a a' : RAct} (h : turnV f a = turnV f' a') : f = f' ∧ a = a' := by
  cases a; cases a'
  simp [turnV] at h
  refine ⟨?_, ?_⟩ <;> simp_all
theorem graph_new (w : World) (m : Mach) : GraphAt (w.alloc (.map #[] 0)) m [] w.heap.size 0 :=
  ⟨.map [], World.ownsMap_made w _ _ _, fun f a kl hk => ⟨fun h => by simp [Maps.has] at h, fun _ e he => by cases he⟩⟩
theorem GraphAt.keep {w w' : World} {m : Mach} {es : List REdge} {b n : Nat} {l : List Nat} (h : GraphAt w m es b n) (ha : Apart w w' l) (hn : b ∉ l) : GraphAt w' m es b n := by
  obtain ⟨D, h1, h2⟩ := h
  refine ⟨D, ?_, h2⟩
  obtain ⟨es', clock, he, hr⟩ := h1
  exact ⟨es', clock, (ha.block b (Array.getElem?_eq_some_iff.1 he).1 hn).trans he, hr⟩
theorem graph_put {w w' : World} {m : Mach} {es : List REdge} {e0 : REdge} {b n : Nat} {D : DataW Unit} {kl : Lit} (hown : w.ownsMap Try.prog 76 (plainElem Try.prog 2) b n D)
    (hD : ∀ f a kl, keyOf Try.prog 76 (turnV f a) = some kl → (Maps.has D kl = true → ∃ e ∈ es, e.src = f ∧ actE m f e = a ∧ ∀ z, D.atKey kl z = .lit (.int .i64 e.dst)) ∧ (Maps.has D kl = false → ∀ e ∈ es, ¬ (e.src = f ∧ actE m f e = a)))
    (hkey : keyOf Try.prog 76 (turnV e0.src (actE m e0.src e0)) = some kl) (hown' : w'.ownsMap Try.prog 76 (plainElem Try.prog 2) b (n + 1) (D.put kl (.lit (.int .i64 e0.dst)))) : GraphAt w' m (es ++ [e0]) b (n + 1) := by
  refine ⟨_, hown', fun f a k' hk' => ?_⟩
  have hmap := hown.isMap
  have hkl := turn_keyed.key hkey
  by_cases he : k' = kl
  · subst he
    have hv := turn_keyed.inj hk' hkey
    obtain ⟨rfl, rfl⟩ := turnV_inj hv
    refine ⟨fun _ => ⟨e0, by simp, rfl, rfl, fun z => atKey_put_same hmap hkl _ z⟩, fun h => ?_⟩
    rw [has_put_same hmap hkl] at h
    cases h
  · obtain ⟨h1, h2⟩ := hD f a k' hk'
    refine ⟨fun h => ?_, fun h => ?_⟩
    · rw [has_put_other he] at h
      obtain ⟨e, he1, he2, he3, he4⟩ := h1 h
      exact ⟨e, List.mem_append_left _ he1, he2, he3, fun z => by rw [atKey_put_other he]; exact he4 z⟩
    · rw [has_put_other he] at h
      intro e he1
      rcases List.mem_append.1 he1 with h3 | h3
      · exact h2 h e h3
      · simp at h3
        subst h3
        rintro ⟨rfl, rfl⟩
        rw [hk'] at hkey
        exact he (Option.some.inj hkey)
theorem act_rng {m : Mach} (h : machB m = true) {e : REdge} (he : e ∈ m.edges) (s : Int) : (actE m s e).rng := by
  have h1 := state_kind h s
  have h2 := edge_bounds h he
  exact ⟨⟨by simp only [actE]; omega, by simp only [actE]; omega⟩, ⟨by simp only [actE]; omega, by simp only [actE]; omega⟩⟩
theorem act_ok {m : Mach} (hf : m.fit) {e : REdge} (he : e ∈ m.edges) (s : Int) : (actE m s e).ok := by
  have := act_fit hf he s
  exact ⟨Nat.le_trans this.1 (by unfold maxLen; omega), Nat.le_trans this.2 (by unfold maxLen; omega)⟩
theorem act_of_at {c : Value} {m : Mach} {x : REdge} (hc : (actE m x.src x).val = c) (v : Value) (w : World) (hv : MachAt w v m) (h0 : 0 ≤ x.src) (h1 : x.src < (m.states.length : Int)) :
    Calls Try.prog 38 #[v, x.val] w fun e w' => e = .returned c ∧ Below w.heap.size w w' := by subst hc; exact act_of m x v w hv h0 h1

theorem wp_letter {P : Program} {c : Code} {Q : Exit → Act → World → Prop} {a : Act} {w : World} (h : ∀ W, W = w → c.wp P Q a W) : c.wp P Q a w := h w rfl
theorem c4_at (w : World) (A B C D : Obj) (k : Nat) (cs : Array Value) (t : TypeId) (off : Nat) (v : Value) (hk : ((((w.alloc A).alloc B).alloc C).alloc D).heap[k]? = some (.cells cs t)) (h : cs[off]? = some v) : ((((w.alloc A).alloc B).alloc C).alloc D).cell? ⟨k, off, none⟩ = some v := by
  simp only [World.cell?]
  rw [hk]
  simpa using h
theorem c4_0 (w : World) (B C D : Obj) (cs : Array Value) (t : TypeId) (off : Nat) (v : Value) (h : cs[off]? = some v) : ((((w.alloc (.cells cs t)).alloc B).alloc C).alloc D).cell? ⟨w.heap.size, off, none⟩ = some v :=
  c4_at _ _ _ _ _ _ cs t off v (by rw [mheap_old _ _ _ (by simp; omega), mheap_old _ _ _ (by simp; omega), mheap_old _ _ _ (by simp), mheap_new _ _ _ rfl]) h
theorem c4_1 (w : World) (A C D : Obj) (cs : Array Value) (t : TypeId) (off : Nat) (v : Value) (h : cs[off]? = some v) : ((((w.alloc A).alloc (.cells cs t)).alloc C).alloc D).cell? ⟨w.heap.size + 1, off, none⟩ = some v :=
  c4_at _ _ _ _ _ _ cs t off v (by rw [mheap_old _ _ _ (by simp), mheap_old _ _ _ (by simp), mheap_new _ _ _ (by simp)]) h
theorem f4_1 (w : World) (A C D : Obj) (cs : Array Value) (t : TypeId) (off : Nat) : ((((w.alloc A).alloc (.cells cs t)).alloc C).alloc D).frozen? ⟨w.heap.size + 1, off, none⟩ = false := by
  have hk : ((((w.alloc A).alloc (.cells cs t)).alloc C).alloc D).heap[w.heap.size + 1]? = some (.cells cs t) := by rw [mheap_old _ _ _ (by simp), mheap_old _ _ _ (by simp), mheap_new _ _ _ (by simp)]
  simp only [World.frozen?]
  rw [hk]
  simp
theorem c4_3 (w : World) (A B C : Obj) (cs : Array Value) (t : TypeId) (off : Nat) (v : Value) (h : cs[off]? = some v) : ((((w.alloc A).alloc B).alloc C).alloc (.cells cs t)).cell? ⟨w.heap.size + 1 + 1 + 1, off, none⟩ = some v :=
  c4_at _ _ _ _ _ _ cs t off v (by rw [mheap_new _ _ _ (by simp)]) h
set_option maxRecDepth 100000 in
set_option maxHeartbeats 1000000 in
theorem graph_of (m : Mach) (v : Value) (w : World) (hm : machB m = true) (hf : m.fit) (hv : MachAt w v m) :
    Calls Try.prog 19 #[v] w fun e w' => ∃ sv b, e = .returned (.agg #[sv, .map (some b)]) ∧ RStateSl w' w'.heap.size sv m.states ∧ GraphAt w' m m.edges b m.edges.length ∧ w.heap.size ≤ b ∧ Below w.heap.size w w' := by
  have HF := hide hf
  have HM := hide hm
  have HV : Hid (∀ W, Below w.heap.size w W → MachAt W v m) := hide (fun W hb => hv.carry hb)
  obtain ⟨sv, ev, rfl, hs, he⟩ := hv
  have HS := hide hs
  have hsl := hs.lenm
  obtain ⟨sa, sc, rfl, hs1, hs2, hs3⟩ := hs
  obtain ⟨ea, ec, rfl, he1, he2, he3⟩ := he
  have HER := hide he3
  have h80 := mach_80 hm
  clear hs3 he3 hf hm
  have hmk : ∀ W : World, (Instr.makeMap 42 none).run Try.prog W = .ok (.map (some W.heap.size)) (W.alloc (.map #[] 0)) := fun W => rfl
  go_enter Try.func19, Try.ntmps19
  go_wp2_with fail
  refine wp_letter (fun W1 hW1 => ?_)
  have hsz1 : W1.heap.size = w.heap.size + 4 := by rw [hW1]; simp
  have m0 : W1.cell? ⟨w.heap.size, 0, none⟩ = some (.slice sa m.states.length sc) := by rw [hW1]; exact c4_0 _ _ _ _ _ _ _ _ rfl
  have m1 : W1.cell? ⟨w.heap.size, 1, none⟩ = some (.slice ea m.edges.length ec) := by rw [hW1]; exact c4_0 _ _ _ _ _ _ _ _ rfl
  have m2 : W1.cell? ⟨w.heap.size, 2, none⟩ = some (.int .i64 m.start) := by rw [hW1]; exact c4_0 _ _ _ _ _ _ _ _ rfl
  have r0 : W1.cell? ⟨w.heap.size + 1, 0, none⟩ = some (.slice none 0 0) := by rw [hW1]; exact c4_1 _ _ _ _ _ _ _ _ rfl
  have r1 : W1.cell? ⟨w.heap.size + 1, 1, none⟩ = some (.map none) := by rw [hW1]; exact c4_1 _ _ _ _ _ _ _ _ rfl
  have fr : ∀ j, W1.frozen? ⟨w.heap.size + 1, j, none⟩ = false := fun j => by rw [hW1]; exact f4_1 _ _ _ _ _ _ _
  have g0 : W1.cell? ⟨w.heap.size + 1 + 1 + 1, 0, none⟩ = some (.slice sa m.states.length sc) := by rw [hW1]; exact c4_3 _ _ _ _ _ _ _ _ rfl
  have g1 : W1.cell? ⟨w.heap.size + 1 + 1 + 1, 1, none⟩ = some (.map (some (w.heap.size + 1 + 1))) := by rw [hW1]; exact c4_3 _ _ _ _ _ _ _ _ rfl
  have HG0 : Hid (GraphAt W1 m [] (w.heap.size + 1 + 1) 0) := hide (by
    rw [hW1]
    have := (graph_new ((w.alloc (.cells #[.slice sa m.states.length sc, .slice ea m.edges.length ec, .int .i64 m.start] 26)).alloc (.cells #[.slice none 0 0, .map none] 44)) m).keep (below_apart (malloc1 _ (.cells #[.slice sa m.states.length sc, .map (some (w.heap.size + 1 + 1))] 44))) (by simp)
    simpa using this)
  have HB1 : Hid (Below w.heap.size w W1) := hide (by rw [hW1]; exact ((balloc2 _ _ _).trans ((malloc1 _ _).mono (by simp; omega))).trans ((malloc1 _ _).mono (by simp; omega)))
  have HFR := hide fr
  clear hW1 hmk fr
  go_loopw [13] (fun i wr => ∃ k : Nat, k ≤ m.edges.length ∧ i = .int .i64 k ∧ GraphAt wr m (m.edges.take k) (w.heap.size + 1 + 1) k ∧ Apart W1 wr [w.heap.size + 1 + 1]) (fun i _ => m.edges.length - (intOf i).toNat)
  case atStart => exact ⟨0, Nat.zero_le _, rfl, HG0.out, (Apart.refl W1).weak⟩
  case round =>
    obtain ⟨k, hk, rfl, hgr, hap⟩ := hrel
    have HGR := hide hgr
    have HAP := hide hap
    have hsr : w.heap.size + 4 ≤ wr.heap.size := by have := hap.size; omega
    have HW : Hid (Below w.heap.size w wr) := hide (HB1.out.trans (hap.below (by omega) (by simp; omega)))
    have m0' := hap.cell' m0 (by simp <;> omega)
    have m1' := hap.cell' m1 (by simp <;> omega)
    have m2' := hap.cell' m2 (by simp <;> omega)
    have g0' := hap.cell' g0 (by simp <;> omega)
    have g1' := hap.cell' g1 (by simp <;> omega)
    clear hgr hap
    by_cases hlt : k < m.edges.length
    · obtain ⟨b, o, rfl, hbB, hrow⟩ := HER.out (by intro h; simp [h] at hlt)
      have hnode := (hrow.get k hlt).carry hbB HW.out
      obtain ⟨e1, he1'⟩ : ∃ e1, e1 = m.edges[k] := ⟨_, rfl⟩
      have hmem : e1 ∈ m.edges := by rw [he1']; exact List.getElem_mem hlt
      rw [← he1'] at hnode
      obtain ⟨d0, d1, d2, d3⟩ := hnode
      have HBD := hide (edge_bounds HM.out hmem)
      have hdw : i64B e1.dst := by have := HBD.out; have := mach_40 HM.out; constructor <;> omega
      have hsw : i64B e1.src := by have := HBD.out; have := mach_40 HM.out; constructor <;> omega
      obtain ⟨kl, hkl⟩ := turn_key e1.src (actE m e1.src e1) hsw (act_rng HM.out hmem _) (act_ok HF.out hmem _)
      have HKL := hide hkl
      have HEL := hide (plainElem_int (H := Unit) Try.underlying2 (i64_wf hdw))
      have HTK : Hid (m.edges.take (k + 1) = m.edges.take k ++ [e1]) := hide (by rw [List.take_succ_eq_append_getElem hlt, ← he1'])
      obtain ⟨ac, hac⟩ : ∃ ac, ac = actE m e1.src e1 := ⟨_, rfl⟩
      have HAC := hide hac
      clear he1' hrow hmem hdw hsw hkl hac
      go_wp2_with fail
      refine wp_region_tail 10 (by kernel_rfl) (by kernel_rfl) (fun W hW => ?_)
      simp only [List.take_succ_cons, List.take_zero, List.drop_succ_cons, List.drop_zero]
      have hne := grown_some W
      have HBW : Hid (Below wr.heap.size wr W) := hide (by rw [hW]; exact malloc1 _ _)
      have f0 := grown_cell (w := W) (by rw [hW]; exact ((malloc1 wr _).cell (p := ⟨w.heap.size, 0, none⟩) (by show w.heap.size < wr.heap.size; omega)).trans m0')
      have f1 := grown_cell (w := W) (by rw [hW]; exact ((malloc1 wr _).cell (p := ⟨w.heap.size, 1, none⟩) (by show w.heap.size < wr.heap.size; omega)).trans m1')
      have f2 := grown_cell (w := W) (by rw [hW]; exact ((malloc1 wr _).cell (p := ⟨w.heap.size, 2, none⟩) (by show w.heap.size < wr.heap.size; omega)).trans m2')
      have f4 := grown_cell (w := W) (by rw [hW]; exact ((malloc1 wr _).cell (p := ⟨w.heap.size + 1 + 1 + 1, 1, none⟩) (by show w.heap.size + 1 + 1 + 1 < wr.heap.size; omega)).trans g1')
      have k0 := grown_cell (w := W) (b := wr.heap.size) (o := 0) (v := .int .i64 e1.src) (by rw [hW]; simp)
      have k1 := grown_cell (w := W) (b := wr.heap.size) (o := 1) (v := .string e1.label) (by rw [hW]; simp)
      have k2 := grown_cell (w := W) (b := wr.heap.size) (o := 2) (v := .int .i64 e1.sort) (by rw [hW]; simp)
      have k3 := grown_cell (w := W) (b := wr.heap.size) (o := 3) (v := .int .i64 e1.dst) (by rw [hW]; simp)
      have HWE := hide hW
      clear hW
      repeat (go_big_quiet_step ((go_at_call 38; exact grown_more (act_of_at (c := .agg #[.int .i64 ac.kind, .string ac.peer, .string ac.label, .int .i64 ac.sort]) (by rw [HAC.out]; rfl) _ _ ((HV.out _ (HW.out.trans (HBW.out.mono HW.out.size))).carry (Grown.bel _)) HBD.out.1 HBD.out.2.1))))
      refine wpQuiet_nil ?_
      intro w2 hw2
      have HB2 : Hid (Below wr.heap.size wr w2) := hide (HBW.out.trans (hw2.mono HBW.out.size))
      have HG2 : Hid (GraphAt w2 m (m.edges.take k) (w.heap.size + 1 + 1) k) := hide (HGR.out.keep (below_apart HB2.out) (by simp))
      obtain ⟨D, hD1, hD2⟩ := HG2.out
      have HD1 := hide hD1
      have HD2 := hide hD2
      clear hw2 hne f0 f1 f2 f4 k0 k1 k2 k3 HWE hD1 hD2
      go_wp2_with (at_mapUpdate; refine wpList_mapUpdate_own _ rfl _ _ _ 42 rfl 76 2 turn_keyed Try.underlying42 _ (w.heap.size + 1 + 1) k D rfl HD1.out (by unfold maxLen; omega) (turnV e1.src ac) _ kl rfl rfl (by rw [HAC.out]; exact HKL.out) _ [] HEL.out ?_; intro w3 hown3 hgr3; have HO3 := hide hown3; have HGR3 := hide hgr3; clear hown3 hgr3)
      go_roundw
      case rel =>
        refine ⟨k + 1, hlt, by go_num, ?_, ?_⟩
        · rw [HTK.out]
          exact graph_put HD1.out HD2.out HKL.out HO3.out
        · have := (HAP.out.then HB2.out).trans (Apart.grown HGR3.out)
          exact this.same
      case measure => simp [intOf]; omega
    · have HALL : Hid (GraphAt wr m m.edges (w.heap.size + 1 + 1) m.edges.length) := hide (by
        have := HGR.out
        rw [List.take_of_length_le (by omega)] at this
        rwa [show k = m.edges.length by omega] at this)
      have r0' := HAP.out.cell' r0 (by simp)
      have r1' := HAP.out.cell' r1 (by simp)
      have fr0 := HAP.out.frozen' (by omega) (HFR.out 0) (by simp)
      have fr1 := HAP.out.frozen' (by omega) (HFR.out 1) (by simp)
      go_wp2_with fail
      obtain ⟨W, hW⟩ : ∃ W, W = ((wr.setCell ⟨w.heap.size + 1, 0, none⟩ (.slice sa m.states.length sc)).setCell ⟨w.heap.size + 1, 1, none⟩ (.map (some (w.heap.size + 1 + 1)))) := ⟨_, rfl⟩
      have z0 : W.cell? ⟨w.heap.size + 1, 0, none⟩ = some (.slice sa m.states.length sc) := by
        rw [hW, World.cell?_setCell_other _ _ _ _ (by simp)]
        exact World.cell?_setCell_same _ _ _ r0'
      have z1 : W.cell? ⟨w.heap.size + 1, 1, none⟩ = some (.map (some (w.heap.size + 1 + 1))) := by
        rw [hW]
        exact World.cell?_setCell_same _ _ _ (u := .map none) (by rw [World.cell?_setCell_other _ _ _ _ (by simp)]; exact r1')
      rw [← hW]
      have hbW : Below w.heap.size w W := by
        rw [hW]
        exact (HW.out.setCell (p := ⟨w.heap.size + 1, 0, none⟩) (by simp) _).setCell (p := ⟨w.heap.size + 1, 1, none⟩) (by simp) _
      have hA : Apart wr W [w.heap.size + 1] := by
        rw [hW]
        exact (((Apart.refl wr).weak).setCell _ _).setCell _ _
      refine bodyPost_ret_by (v := .agg #[.slice sa m.states.length sc, .map (some (w.heap.size + 1 + 1))]) ?_ rfl ⟨_, _, rfl, (HS.out.carry hbW).up hbW.size, HALL.out.keep hA (by simp), by omega, hbW⟩
      unfold results
      go_simp
end Go.Proofs.Ytlbcnmcfljaijaa
namespace Go.Proofs.Ytlbcnmcfljaijaa
open Go.RowKit Go.Maps
attribute [local go_sem ↓] Go.wp_at_zero Go.wp_at_succ

theorem zero_i64S (w : World) : (zeroValue 2).run Try.prog w = .ok (.int .i64 0) w := Try.zeroValue2 w
set_option maxRecDepth 100000 in
set_option maxHeartbeats 1000000 in
theorem graph_step {c : Int} {m : Mach} {s : Int} {a : RAct} (hc : stepF m s a = c) (hm : machB m = true) (p : Option Addr) (nl nc b n : Nat) (w : World) (hg : GraphAt w m m.edges b n) (hs : i64B s) (hr : a.rng) (hok : a.ok) :
    Calls Try.prog 20 #[.agg #[.slice p nl nc, .map (some b)], .int .i64 s, a.val] w fun e w' => e = .returned (.int .i64 c) ∧ Below w.heap.size w w' := by
  obtain ⟨kl, hkl⟩ := turn_key s a hs hr hok
  have HKL := hide hkl
  have hg2 : ∀ A B, GraphAt ((w.alloc A).alloc B) m m.edges b n := fun A B => hg.keep (below_apart (balloc2 _ _ _)) (by simp)
  have HG2 := hide hg2
  have HC := hide hc
  have HM := hide hm
  obtain ⟨D, hD1, hD2⟩ := hg
  have hlook := hD2 s a kl hkl
  have HLK := hide hlook
  have HOW : Hid (∀ A B, ((w.alloc A).alloc B).ownsMap Try.prog 76 (plainElem Try.prog 2) b n D) := hide (fun A B => (hD1.alloc A).alloc B)
  obtain ⟨hs', hhs⟩ : ∃ x, Maps.has D kl = x := ⟨_, rfl⟩
  have HHS := hide hhs
  clear hkl hg2 hlook hD1 hD2 hc hm hs hr hok hhs
  unfold RAct.val
  cases hs'
  · have HN : Hid (c = -1) := hide (by rw [← HC.out]; exact stepF_none (HLK.out.2 HHS.out))
    go_enter Try.func20, Try.ntmps20
    go_wp2_with (at_lookup; refine wpList_lookup_own_ok_int _ rfl _ _ 42 rfl 76 2 .i64 turn_keyed Try.underlying42 Try.underlying2 (zero_i64S _) b n D rfl (HOW.out _ _) (turnV s a) kl rfl HKL.out ?_; intro c1 hat1 hwc1; rw [HHS.out]; clear hat1 hwc1)
    go_ret
    exact ⟨ret_int HN.out, balloc2 _ _ _⟩
  · have HY : Hid (∀ z, D.atKey kl z = .lit (.int .i64 c)) := hide (by
      obtain ⟨e, he1, he2, he3, he4⟩ := HLK.out.1 HHS.out
      intro z
      rw [he4 z, ← HC.out, stepF_some HM.out he1 he2 he3])
    go_enter Try.func20, Try.ntmps20
    go_wp2_with (at_lookup; refine wpList_lookup_own_ok_int _ rfl _ _ 42 rfl 76 2 .i64 turn_keyed Try.underlying42 Try.underlying2 (zero_i64S _) b n D rfl (HOW.out _ _) (turnV s a) kl rfl HKL.out ?_; intro c1 hat1 hwc1; have HEQ : Hid (c = c1) := hide (by rw [HY.out] at hat1; injection hat1 with h; injection h); rw [HHS.out]; clear hat1 hwc1)
    go_ret
    exact ⟨ret_int HEQ.out, balloc2 _ _ _⟩

set_option maxRecDepth 100000 in
set_option maxHeartbeats 1000000 in
theorem step_of (m : Mach) (s : Int) (a : RAct) (v : Value) (w : World) (hf : m.fit) (hr : a.rng) (hok : a.ok) (hv : MachAt w v m) :
    Calls Try.prog 11 #[v, .int .i64 s, a.val] w fun e w' => e = .returned (.int .i64 (stepAc m s a)) ∧ Below w.heap.size w w' := by
  have HF := hide hf
  have HV : Hid (∀ W, Below w.heap.size w W → MachAt W v m) := hide (fun W hb => hv.carry hb)
  obtain ⟨sv, ev, rfl, hs, he⟩ := hv
  obtain ⟨sa, sc, rfl, -⟩ := hs
  obtain ⟨ea, ec, rfl, -⟩ := he
  obtain ⟨q, hq⟩ : ∃ q, (machB m && inB s 0 ((m.states.length : Int) - 1)) = q := ⟨_, rfl⟩
  have HR : Hid (stepAc m s a = if q then stepF m s a else -1) := hide (by rw [stepAc, hq])
  have HQ := hide hq
  have HAR := hide (And.intro hr hok)
  clear hq hf hr hok
  unfold RAct.val
  cases q
  · go_enter Try.func11, Try.ntmps11
    go_wp2_with (go_at_call 26; refine (right_with HQ.out _ _ HF.out (HV.out _ (balloc2 _ _ _))).mono ?_; rintro e w1 ⟨rfl, hb1⟩; have HB1 : Hid (Below w.heap.size w w1) := hide ((balloc2 _ _ _).trans (hb1.mono (by simp; omega))); clear hb1)
    go_ret
    exact ⟨ret_int HR.out, HB1.out⟩
  · have hq' : machB m = true ∧ inB s 0 ((m.states.length : Int) - 1) = true := by have := HQ.out; simpa using this
    have HM := hide hq'.1
    have HSW : Hid (i64B s) := hide (by have := hq'.2; have := mach_40 hq'.1; simp [inB] at *; constructor <;> omega)
    clear hq'
    go_enter Try.func11, Try.ntmps11
    go_wp2_with (go_at_call 26; refine (right_with HQ.out _ _ HF.out (HV.out _ (balloc2 _ _ _))).mono ?_; rintro e w1 ⟨rfl, hb1⟩; have HB1 : Hid (Below w.heap.size w w1) := hide ((balloc2 _ _ _).trans (hb1.mono (by simp; omega))); have hz1 : w.heap.size + 1 < w1.heap.size := (by have := hb1.size; simp at this; omega); have b0 := (hb1.cell (p := ⟨w.heap.size, 0, none⟩) (by simp; omega)); have b1 := (hb1.cell (p := ⟨w.heap.size, 1, none⟩) (by simp; omega)); have b2 := (hb1.cell (p := ⟨w.heap.size, 2, none⟩) (by simp; omega)); have a0 := (hb1.cell (p := ⟨w.heap.size + 1, 0, none⟩) (by simp)); have a1 := (hb1.cell (p := ⟨w.heap.size + 1, 1, none⟩) (by simp)); have a2 := (hb1.cell (p := ⟨w.heap.size + 1, 2, none⟩) (by simp)); have a3 := (hb1.cell (p := ⟨w.heap.size + 1, 3, none⟩) (by simp)); simp at b0 b1 b2 a0 a1 a2 a3; clear hb1)
    go_region_with (first
      | (go_at_call 19; refine (graph_of m _ _ HM.out HF.out (HV.out _ HB1.out.drew)).mono ?_; rintro e w2 ⟨sv, b, rfl, hs2, hg2, -, hb2⟩; obtain ⟨p2, c2, rfl⟩ := hs2.shape; have HG2 := hide hg2; have HB2 : Hid (Below w1.heap.size w1 w2) := hide ((Below.refl _ _).drew.trans hb2); have c0 := (HB2.out.cell (p := ⟨w.heap.size + 1, 0, none⟩) hz1).trans a0; have c1 := (HB2.out.cell (p := ⟨w.heap.size + 1, 1, none⟩) hz1).trans a1; have c2' := (HB2.out.cell (p := ⟨w.heap.size + 1, 2, none⟩) hz1).trans a2; have c3 := (HB2.out.cell (p := ⟨w.heap.size + 1, 3, none⟩) hz1).trans a3; clear hs2 hg2 hb2)
      | (go_at_call 20; refine (graph_step (a := a) rfl HM.out _ _ _ _ _ _ HG2.out HSW.out HAR.out.1 HAR.out.2).mono ?_; rintro e w3 ⟨rfl, hb3⟩; have HB3 := hide hb3; clear hb3))
    all_goals
      go_wp2_with fail
      go_ret
      exact ⟨ret_int HR.out, HB1.out.trans ((HB2.out.trans (HB3.out.mono HB2.out.size)).mono HB1.out.size)⟩
end Go.Proofs.Ytlbcnmcfljaijaa
