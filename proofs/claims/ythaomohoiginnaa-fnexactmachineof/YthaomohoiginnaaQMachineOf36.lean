/- Rows of numbers: in memory; the law's own helpers over them. -/
import Derived.Test.YthaomohoiginnaaQMachineOf35
namespace Go.Proofs.Ythaomohoiginnaa
open Go.RowKit Go.ChangeShapes Go.WideShapes

def Nums (w : World) (b o : Nat) (l : List Int) : Prop := ∀ j (h : j < l.length), w.cell? ⟨b, o + j, none⟩ = some (.int .i64 l[j])
theorem Nums.carry {w w' : World} {b B o : Nat} {l : List Int} (h : Nums w b o l) (hB : b < B) (hb : Below B w w') : Nums w' b o l :=
  fun j hj => (hb.cell (p := ⟨b, o + j, none⟩) hB).trans (h j hj)
/-- a slice's value holds such a row, in a block below B -/
def NumSl (w : World) (B : Nat) (v : Value) (l : List Int) : Prop :=
  ∃ ao cap, v = .slice ao l.length cap ∧ l.length ≤ cap ∧ l.length ≤ 4294967296 ∧ (l ≠ [] → ∃ b o, ao = some ⟨b, o, none⟩ ∧ b < B ∧ Nums w b o l)
theorem NumSl.carry {w w' : World} {B : Nat} {v : Value} {l : List Int} (h : NumSl w B v l) (hb : Below B w w') : NumSl w' B v l := by
  obtain ⟨ao, cap, h1, h2, h3, h4⟩ := h
  refine ⟨ao, cap, h1, h2, h3, fun hne => ?_⟩
  obtain ⟨b, o, e, hlt, hr⟩ := h4 hne
  exact ⟨b, o, e, hlt, hr.carry hlt hb⟩
theorem NumSl.up {w : World} {B B' : Nat} {v : Value} {l : List Int} (h : NumSl w B v l) (hB : B ≤ B') : NumSl w B' v l := by
  obtain ⟨ao, cap, h1, h2, h3, h4⟩ := h
  refine ⟨ao, cap, h1, h2, h3, fun hne => ?_⟩
  obtain ⟨b, o, e, hlt, hr⟩ := h4 hne
  exact ⟨b, o, e, by omega, hr⟩
theorem NumSl.on {w w' : World} {v : Value} {l : List Int} (h : NumSl w w.heap.size v l) (hb : Below w.heap.size w w') : NumSl w' w'.heap.size v l := (h.carry hb).up hb.size
theorem NumSl.shape {w : World} {B : Nat} {v : Value} {l : List Int} (h : NumSl w B v l) : ∃ p c, v = .slice p l.length c := by
  obtain ⟨ao, cap, h1, _⟩ := h
  exact ⟨ao, cap, h1⟩
theorem Try.infoI64 : (Try.prog.info? 2).map (fun i => (i.zero, i.size, i.bytes)) = some (some (.int .i64 0), 1, 8) := by kernel_rfl

set_option maxHeartbeats 2000000 in
set_option maxRecDepth 100000 in
theorem to_nums (l : List Int) (ao : Option Addr) (cap : Nat) (w : World) (hl : l.length ≤ 1048576) (hr : l ≠ [] → ∃ b o, ao = some ⟨b, o, none⟩ ∧ b < w.heap.size ∧ Nums w b o l) :
    Calls Try.prog 48 #[.slice ao l.length cap] w fun e w' => ∃ v', e = .returned v' ∧ NumSl w' w'.heap.size v' l ∧ MOwn w.heap.size w' v' ∧ Below w.heap.size w w' := by
  have HR := hide hr
  obtain ⟨i0, hi, hz0, hz1, hz2⟩ := info_parts Try.infoI64
  obtain ⟨M, hM⟩ : ∃ M, M = madeCells (Value.int .i64 0).cells (l.length * 1) := ⟨_, rfl⟩
  have hMs : M.size = l.length * 1 := by rw [hM, size_madeCells]
  have hmk : ∀ W : World, (Instr.makeSlice 71 (.int .i64 (l.length : Int)) (.int .i64 (l.length : Int))).run Try.prog W = .ok (.slice (some ⟨W.heap.size, 0, none⟩) l.length l.length) (W.alloc (.cells M 2)) := fun W => by
    have h := run_make (P := Try.prog) W 71 2 i0 _ Try.underlying71 hi hz0 .i64 .i64 (l.length : Int) (l.length : Int) (by omega) (by omega) (by rw [hz2]; omega) (by omega)
    rw [hz1] at h
    simp only [Int.toNat_natCast] at h
    rw [← hM] at h
    exact h
  have HMS := hide hMs
  clear hr hM hMs hi hz0 hz1 hz2
  go_enter Try.func48, Try.ntmps48
  go_wp2_with fail
  go_loopw [4] (fun i wr => ∃ k : Nat, k ≤ l.length ∧ i = .int .i64 k ∧ (∀ j (h : j < l.length), j < k → wr.cell? ⟨w.heap.size, j, none⟩ = some (.int .i64 l[j])) ∧ (∀ j, j < l.length → ∃ y, wr.cell? ⟨w.heap.size, j, none⟩ = some y) ∧ (∀ j, wr.frozen? ⟨w.heap.size, j, none⟩ = false) ∧ w.heap.size < wr.heap.size ∧ Below w.heap.size w wr)
    (fun i _ => l.length - (intOf i).toNat)
  case atStart =>
    refine ⟨0, Nat.zero_le _, rfl, fun j _ h => absurd h (by omega), fun j hj => ?_, fun j => ?_, by simp, malloc1 _ _⟩
    · have hj' : j < M.size := by rw [HMS.out]; omega
      exact ⟨M[j], by simp [hj']⟩
    · simp
  case round =>
    obtain ⟨k, hk, rfl, hall, hcells, hfro, hsz, hbel⟩ := hrel
    have HA := hide hall
    have HC := hide hcells
    have HFR := hide hfro
    have HBEL := hide hbel
    clear hall hbel
    by_cases hlt : k < l.length
    · obtain ⟨b, o, rfl, hbB, hrow⟩ := HR.out (by intro h; simp [h] at hlt)
      have hnode := (hrow.carry hbB HBEL.out) k hlt
      obtain ⟨x1, hx1⟩ : ∃ x1, x1 = l[k] := ⟨_, rfl⟩
      rw [← hx1] at hnode
      have HN := hide hx1
      clear hx1 hrow
      obtain ⟨y0, g0⟩ := hcells k hlt
      have f0 := hfro k
      clear hcells hfro
      go_wp2_with fail
      all_goals
        go_roundw
        case rel =>
          refine ⟨k + 1, by omega, by go_num, fun j hj hjk => ?_, fun j hj => ?_, fun j => ?_, ?_, ?_⟩
          · by_cases hjk' : j = k
            · subst hjk'; rw [← HN.out]; exact World.cell?_setCell_same _ _ _ g0
            · rw [World.cell?_setCell_other _ _ _ _ (by intro e; injection e with _ e2; omega)]
              exact HA.out j hj (by omega)
          · by_cases hjk' : j = k
            · subst hjk'; exact ⟨_, World.cell?_setCell_same _ _ _ g0⟩
            · obtain ⟨y, hy⟩ := HC.out j hj
              exact ⟨y, by rw [World.cell?_setCell_other _ _ _ _ (by intro e; injection e with _ e2; omega)]; exact hy⟩
          · rw [World.frozen?_setCell]; exact HFR.out j
          · rw [World.size_setCell]; exact hsz
          · first | exact HBEL.out.setCell (p := ⟨w.heap.size, k, none⟩) (Nat.le_refl _) _ | exact HBEL.out.drew.setCell (p := ⟨w.heap.size, k, none⟩) (Nat.le_refl _) _
        case measure => simp [intOf]; omega
    · go_wp2_with fail
      go_ret
      refine ⟨_, rfl, ⟨_, _, rfl, Nat.le_refl _, by omega, fun hne => ⟨w.heap.size, 0, rfl, hsz, fun j hj => ?_⟩⟩, ⟨fun b hb => by simp [Value.ownBlock] at hb; subst hb; exact ⟨Nat.le_refl _, hsz, HFR.out⟩⟩, HBEL.out⟩
      rw [Nat.zero_add]
      exact HA.out j hj (by omega)

set_option maxHeartbeats 400000 in
theorem eq_nums (l : List Int) (v u : Value) (w : World) (hv : NumSl w w.heap.size v l) (hu : NumSl w w.heap.size u l) :
    Calls Try.prog 50 #[v, u] w fun e w' => e = .returned (.bool true) ∧ Below w.heap.size w w' := by
  obtain ⟨ao, cap, rfl, hc, hm, hr⟩ := hv
  obtain ⟨ao', cap', rfl, hc', hm', hr'⟩ := hu
  have HR := hide hr
  have HR' := hide hr'
  clear hr hr'
  go_enter Try.func50, Try.ntmps50
  go_wp2_with fail
  go_loopw [5] (fun i wr => ∃ k : Nat, k ≤ l.length ∧ i = .int .i64 k ∧ Below w.heap.size w wr) (fun i _ => l.length - (intOf i).toNat)
  case atStart => exact ⟨0, Nat.zero_le _, rfl, Below.refl _ _⟩
  case round =>
    obtain ⟨k, hk, rfl, hbel⟩ := hrel
    have HBEL := hide hbel
    have hszr := hbel.size
    clear hbel
    by_cases hlt : k < l.length
    · obtain ⟨b, o, rfl, hbB, hrow⟩ := HR.out (by intro h; simp [h] at hlt)
      obtain ⟨b', o', rfl, hbB', hrow'⟩ := HR'.out (by intro h; simp [h] at hlt)
      have c0 := (hrow.carry hbB HBEL.out) k hlt
      have d0 := (hrow'.carry hbB' HBEL.out) k hlt
      obtain ⟨x1, hx1⟩ : ∃ x1, x1 = l[k] := ⟨_, rfl⟩
      rw [← hx1] at c0 d0
      clear hx1 hrow hrow'
      go_wp2_with fail
      go_region
      go_wp2_with fail
      all_goals
        go_roundw
        case rel => exact ⟨k + 1, by omega, by go_num, by first | exact HBEL.out | exact HBEL.out.drew | exact HBEL.out.drew.drew⟩
        case measure => simp [intOf]; omega
    · go_wp2_with fail
      go_ret
      exact ⟨rfl, HBEL.out⟩

set_option maxRecDepth 100000 in
/-- numbers that are handed in -/
theorem open_nums {H : Type} {enc : TypeId × Value → H} {w : World} {base : Nat} {spare : Nat → Bool} {held : Bool} {fuel : Nat} {a0 : Option Addr} {len0 cap0 : Nat} {x : DataW H × List MemPlace} (h : DataW.trod enc Try.prog w base spare held fuel 71 [.slice a0 len0 cap0] = some x) :
    ∃ ns : List Int, ns.length = len0 ∧ (∀ z ∈ ns, -9223372036854775808 ≤ z ∧ z ≤ 9223372036854775807) ∧ ns.length ≤ maxLen ∧ (ns ≠ [] → ∃ b o, a0 = some ⟨b, o, none⟩ ∧ b < w.heap.size ∧ Nums w b o ns) := by
  rcases Go.Deep.open_slice Try.underlying71 h with ⟨h0, _⟩ | ⟨a, len, cap, m, n, D, Pl, hcs, hb, hl, hm, hmm, hx, hel⟩
  · simp at h0
    obtain ⟨rfl, rfl, rfl⟩ := h0
    exact ⟨[], rfl, by simp, Nat.zero_le _, fun h => absurd rfl h⟩
  · simp at hcs
    obtain ⟨rfl, rfl, rfl⟩ := hcs
    have hlm : len0 ≤ m := by rw [hmm]; split <;> omega
    have each : ∀ i, i < len0 → ∃ z : Int, (-9223372036854775808 ≤ z ∧ z ≤ 9223372036854775807) ∧ ∀ b o, a = ⟨b, o, none⟩ → w.cell? ⟨b, o + i, none⟩ = some (.int .i64 z) := by
      intro i hi
      obtain ⟨cs', h1, h2⟩ := hel i (by omega)
      rw [Try.ocI] at h1
      obtain ⟨_, hlen, hcell⟩ := World.cells?_some h1
      obtain ⟨z, e0, _, hw⟩ := DataW.trod_int Try.underlying2 h2
      refine ⟨z, by simp [Lit.wf, IntKind.min, IntKind.max, IntKind.signed, IntKind.bits] at hw; exact hw, fun b o hab => ?_⟩
      subst hab
      have pl : ((⟨b, o, none⟩ : Addr).add (i * 1)).add 0 = ⟨b, o + i, none⟩ := by
        rw [Go.Deep.add_add]
        unfold Addr.add
        split <;> simp_all
      have := hcell 0 (by omega)
      rw [pl, e0] at this
      exact this
    obtain ⟨q, hq⟩ := Go.Deep.choose_lt each
    refine ⟨(List.range len0).map q, by simp, ?_, by simp; omega, fun hne => ?_⟩
    · intro x hx
      obtain ⟨i, hi, rfl⟩ := List.mem_map.1 hx
      exact (hq i (List.mem_range.1 hi)).1
    · have hpos : 0 < len0 := by
        rcases Nat.eq_zero_or_pos len0 with h0 | h0
        · subst h0; simp at hne
        · exact h0
      obtain ⟨b, o, s⟩ := a
      have hspot : s = none := by
        obtain ⟨cs', h1, h2⟩ := hel 0 (by omega)
        rw [Try.ocI] at h1
        obtain ⟨_, hlen, hcell⟩ := World.cells?_some h1
        obtain ⟨z, e0, _⟩ := DataW.trod_int Try.underlying2 h2
        have h0 := hcell 0 (by omega)
        rw [e0] at h0
        have := World.cell?_spot h0
        simpa [Addr.add] using this
      subst hspot
      have hrow : Nums w b o ((List.range len0).map q) := fun j hj => by
        simp only [List.getElem_map, List.getElem_range]
        exact (hq j (by simpa using hj)).2 b o rfl
      refine ⟨b, o, rfl, ?_, hrow⟩
      have := (hq 0 hpos).2 b o rfl
      exact World.block_lt_of_cell? w _ this
end Go.Proofs.Ythaomohoiginnaa
/- The specification's maker of machines: make at a recursion. -/
namespace Go.Proofs.Ythaomohoiginnaa
open Go.RowKit
attribute [local go_sem ↓] Go.wp_at_zero Go.wp_at_succ

theorem MkAt.drew {w : World} {xb B base : Nat} {v sv ev : Value} {z : Int} {nv fv : Value} {all : List Nd} {sts : List RState} {eds : List REdge} {ns : List ByteArray} {fis : List Int} (h : MkAt w xb B base v sv ev z nv fv all sts eds ns fis) : MkAt w.drew xb B base v sv ev z nv fv all sts eds ns fis := h.far ⟨(Apart.refl w).drew⟩
theorem Mkept.drewl {w w' : World} {base xb : Nat} (h : Mkept w.drew w' base xb) : Mkept w w' base xb := ⟨h.os, h.tape, h.output, h.size, h.block⟩
theorem strs1_one (x : ByteArray) : ∀ u ∈ ([.string x] : List Value), u.oneCell' = true := by intro u hu; simp at hu; subst hu; rfl
theorem num1_one (x : Int) : ∀ u ∈ ([.int .i64 x] : List Value), u.oneCell' = true := by intro u hu; simp at hu; subst hu; rfl
set_option maxRecDepth 100000 in
set_option maxHeartbeats 4000000 in
theorem make_rec (f : Nat) (hf : MakeCalls f) (st all r : List Nd) (pos : Nat) (w : World) (xb B base : Nat) (v sv ev : Value) (z : Int) (nv fv : Value) (sts : List RState) (eds : List REdge) (ns : List ByteArray) (fis : List Int) (name peer : ByteArray) (many sort : Int) (hpos : pos < all.length) (hx : all[pos] = ⟨2, name, peer, many, sort⟩)
    (ha : ahead (talkS true) f (⟨2, name, peer, many, sort⟩ :: st) (all.drop (pos + 1)) = some r) (hall : all.length ≤ 40) (hlen : fis.length = ns.length) (hns : ns.length + (f + 1) ≤ 100) (hcs : cntS all pos = sts.length) (hed : eds.length + (all.length - pos) ≤ 900) (h : MkAt w xb B base v sv ev z nv fv all sts eds ns fis) :
    Calls Try.prog 128 #[.pointer (some ⟨xb, 0, none⟩), .int .i64 (pos : Int)] w fun e w' => Made w w' xb B base v z (rows4 sv ev nv fv) all ns fis e (Go.Proofs.Ythaomohoiginnaa.sv f (ns ++ [name]) (fis ++ [firstOf (ns ++ [name]) (fis ++ [0]) sts.length (all.drop (pos + 1))]) (all.drop (pos + 1)) (sts, eds)) := by
  have H := hide h
  have c0 := h.box.cell 0 _ rfl
  have c4 := h.box.cell 4 _ rfl
  have cz := h.box.fz
  have hxw := h.box.lt
  obtain ⟨i0, hi, hz0, hz1, hz2⟩ := info_parts Try.infoStr
  have HI := hide (And.intro hi (And.intro hz0 (And.intro hz1 hz2)))
  obtain ⟨i1, hi1, hy0, hy1, hy2⟩ := info_parts Try.infoI64
  have HJ := hide (And.intro hi1 (And.intro hy0 (And.intro hy1 hy2)))
  obtain ⟨pn, cn, hpn⟩ := owns_shape h.nm
  obtain ⟨ao, cap, rfl, hc1, hc2, hr⟩ := h.sl
  obtain ⟨b, o, rfl, hb, hrow⟩ := hr (by rintro rfl; simp at hpos)
  have hnode := hrow.get pos hpos
  rw [hx] at hnode
  obtain ⟨d0, d1, d2, d3, d4⟩ := hnode
  dsimp only at d0 d1 d2 d3 d4
  subst hpn
  have hcs2 : cntS all (pos + 1) = sts.length := by rw [cntS_succ hpos, hx, ← hcs]; rfl
  have hpl : pos + 1 < all.length := by
    rcases Nat.lt_or_ge (pos + 1) all.length with h1 | h1
    · exact h1
    · rw [List.drop_eq_nil_of_le h1] at ha; cases f <;> cases ha
  have hch : ¬ (∀ n ∈ all.drop (pos + 1), n.op = 2) := ahead_chain _ _ _ _ ha
  obtain ⟨fst, hfst⟩ : ∃ x, firstOf (ns ++ [name]) (fis ++ [0]) sts.length (all.drop (pos + 1)) = x := ⟨_, rfl⟩
  rw [hfst]
  have HFIR : Hid (∀ (W : World) (sv2 ev2 nv2 fv2 : Value), MkAt W xb B base (.slice (some ⟨b, o, none⟩) all.length cap) sv2 ev2 z nv2 fv2 all sts eds (ns ++ [name]) (fis ++ [0]) → Calls Try.prog 127 #[.pointer (some ⟨xb, 0, none⟩), .int .i64 ((pos : Int) + 1)] W fun e w' => e = .returned (.int .i64 fst) ∧ Below W.heap.size W w') := hide (fun W sv2 ev2 nv2 fv2 hW => by
    have := first_calls all (ns ++ [name]) (fis ++ [0]) (by simp; omega) (by simp; omega) (by omega) _ (pos + 1) xb W.heap.size W rfl hch hW.firAt (Nat.le_refl _)
    rw [hcs2, hfst] at this
    rw [show (pos : Int) + 1 = ((pos + 1 : Nat) : Int) by omega]
    exact this)
  have HMK : Hid (∀ (W : World) (sv2 ev2 nv2 fv2 : Value), MkAt W xb B base (.slice (some ⟨b, o, none⟩) all.length cap) sv2 ev2 z nv2 fv2 all sts eds (ns ++ [name]) (fis ++ [fst]) → Calls Try.prog 128 #[.pointer (some ⟨xb, 0, none⟩), .int .i64 ((pos : Int) + 1)] W fun e w' => Made W w' xb B base (.slice (some ⟨b, o, none⟩) all.length cap) z (rows4 sv2 ev2 nv2 fv2) all (ns ++ [name]) (fis ++ [fst]) e (Go.Proofs.Ythaomohoiginnaa.sv f (ns ++ [name]) (fis ++ [fst]) (all.drop (pos + 1)) (sts, eds))) := hide (fun W sv2 ev2 nv2 fv2 hW => by
    have := hf _ all r (pos + 1) W xb B base _ sv2 ev2 z nv2 fv2 sts eds (ns ++ [name]) (fis ++ [fst]) ha hall hpl (by simp; omega) (by simp; omega) hcs2 (by omega) hW
    rw [show (pos : Int) + 1 = ((pos + 1 : Nat) : Int) by omega]
    exact this)
  obtain ⟨O, hO⟩ : ∃ O, Go.Proofs.Ythaomohoiginnaa.sv f (ns ++ [name]) (fis ++ [fst]) (all.drop (pos + 1)) (sts, eds) = O := ⟨_, rfl⟩
  rw [hO] at HMK ⊢
  have HLEN := hide hlen
  have HW1 : Hid (∀ ob : Obj, MkAt (w.alloc ob).drew xb B base (.slice (some ⟨b, o, none⟩) all.length cap) sv ev z (.slice pn ns.length cn) fv all sts eds ns fis) := hide (fun ob => (H.out.far ((Far.ofBelow (Below.refl _ _)).alloc ob)).drew)
  have HS := hide H.out.sz
  clear h hr hi hz0 hz1 hz2 hi1 hy0 hy1 hy2 hf hch ha hcs hcs2 hfst hO hx hrow hlen hed
  go_enter Try.func128, Try.ntmps128
  go_wp2_with fail
  go_region_law (refine stepM_at rfl (.tmp 47) (.tmp 50) 126 rfl base 9 i0 (.string ByteArray.empty) 1 16 Try.underlying126 HI.out.1 HI.out.2.1 HI.out.2.2.1 HI.out.2.2.2 rfl (by decide) (.slice pn ns.length cn) ns.length (strsV ns) (by simp [Act.eval]) (owns_below (HW1.out _).nm (malloc1 _ _)) ⟨w.heap.size + 1, 0, none⟩ 1 1 [.string name] (by simp [Act.eval]) rfl (fun j u hj => new_row1q _ _ _ _ (by simp) j u hj) (strs1_one _) (by unfold maxLen; omega) (by omega) (by have := HS.out; simp; omega) ?_; intro v4 w4 hown4 hgr4 hat4; have HM4 := hide (mk_pushN (HW1.out _) name _ hown4 hgr4 hat4); have HX4 := hide (mk4_N (w3 := (w.alloc (.cells #[.int .i64 2, .string name, .string peer, .int .i64 many, .int .i64 sort] 79)).drew) (xb := xb) (sv := sv) (ev := ev) (fv := fv) hown4 _ hgr4 hat4); have HB4 := hide ((HW1.out (.cells #[.int .i64 2, .string name, .string peer, .int .i64 many, .int .i64 sort] 79)).box.keep ((below_apart (malloc1 _ _)).trans (grownBy_apart hgr4)) (fun hm => by rw [List.nil_append] at hm; have := (owns_fresh H.out.nm).lo _ hm; have := H.out.low; omega)); have l4 := HB4.out.cell 4 _ rfl; have lz := HB4.out.fz; obtain ⟨p4, c4, rfl⟩ := owns_shape hown4; clear hown4 hgr4 hat4)
  all_goals
    obtain ⟨W5, hW5⟩ : ∃ W, W = w4.setCell ⟨xb, 4, none⟩ (.slice p4 (ns.length + 1) c4) := ⟨_, rfl⟩
    rw [← hW5]
    have HM5 := hide (show MkAt W5 xb B base (.slice (some ⟨b, o, none⟩) all.length cap) sv ev z (.slice p4 (ns.length + 1) c4) fv all sts eds (ns ++ [name]) fis by rw [hW5]; exact HM4.out.1)
    have HK5 := hide (show Mkept w W5 base xb by rw [hW5]; exact ((Far.ofBelow (malloc1 w _)).ap.drew.mkept H.out.sz (by simp)).trans HM4.out.2)
    have HX5 := hide (show Mk4 w W5 xb (rows4 sv ev (.slice pn ns.length cn) fv) (rows4 sv ev (.slice p4 (ns.length + 1) c4) fv) by rw [hW5]; exact (Mk4.far ⟨(Far.ofBelow (malloc1 w _)).ap.drew⟩).trans HX4.out)
    clear hW5 HM4 HB4 HX4 l4 lz
    have c5 := HM5.out.box.cell 5 _ rfl
    have z5 := HM5.out.box.fz
    have hx5 := HM5.out.box.lt
    have hl5 : fis.length ≤ ns.length := by have := HLEN.out; omega
    have hl6 : ns.length ≤ fis.length := by have := HLEN.out; omega
    obtain ⟨pf, cf, hpf⟩ := owns_shape HM5.out.fi
    subst hpf
    go_wp2_with (first
      | (go_at_call 128; refine (HMK.out _ _ _ _ _ HM9.out.1).mono ?_; rintro e w10 ⟨sv2, ev2, nv2, fv2, rfl, hm10, hk10, hx10⟩; obtain ⟨g10, c10, rfl, hc10, hd10⟩ := hm10.someN1; obtain ⟨g11, c11, rfl, hc11, hd11, -, -⟩ := hm10.someF1; have HM10 := hide hm10; have HK10 := hide hk10; have HX10 := hide hx10; have m4 := hm10.box.cell 4 _ rfl; have m5 := hm10.box.cell 5 _ rfl; have mz := hm10.box.fz; clear hm10 hk10 hx10)
      | (go_at_call 127; refine (HFIR.out _ _ _ _ _ HM6.out.1).mono ?_; rintro e w8 ⟨rfl, hb8⟩; have HM8 := hide (HM6.out.1.far (Far.ofBelow hb8)); have HK8 := hide (HM6.out.2.trans ((Far.ofBelow hb8).ap.mkept HM6.out.1.sz (by simp))); have e4 := HM8.out.box.cell 4 _ rfl; have e5 := HM8.out.box.cell 5 _ rfl; have ez := HM8.out.box.fz; obtain ⟨g6', c6', hv6', -, -, e6, ey⟩ := HM8.out.someF1; injection hv6' with hv6' _ _; injection hv6' with hv6'; injection hv6' with hv6'; subst hv6'; have HX8 := hide (Mk4.far (xb := xb) (R := rows4 sv ev (.slice p4 (ns.length + 1) c4) (.slice (some ⟨g6, 0, none⟩) (fis.length + 1) c6)) (Far.ofBelow hb8)); have HM9 := hide (mk_setF HM8.out fst); rw [HLEN.out] at e6; rw [show (⟨g6, fis.length, none⟩ : Addr) = ⟨g6, ns.length, none⟩ by rw [HLEN.out]] at HM9; clear hb8)
      | (at_builtin; refine wpList_append_own_at _ rfl (.tmp 58) (.tmp 59) 71 rfl base 2 i1 (.int .i64 0) 1 8 Try.underlying71 HJ.out.1 HJ.out.2.1 HJ.out.2.2.1 HJ.out.2.2.2 rfl (by decide) (.slice pf fis.length cf) fis.length (numsV fis) rfl (owns_below HM5.out.fi (malloc1 _ _)) ⟨W5.heap.size, 0, none⟩ 1 1 [.int .i64 0] rfl rfl (fun j u hj => new_row1q W5 _ _ _ rfl j u hj) (num1_one _) (by unfold maxLen; omega) (by omega) (by have := HM5.out.sz; simp; omega) ?_; intro v6 w6 hown6 hgr6 _ hat6; have HM6 := hide (mk_pushF HM5.out 0 _ hown6 hgr6 hat6); have HX6 := hide (mk4_F (xb := xb) (sv := sv) (ev := ev) (nv := .slice p4 (ns.length + 1) c4) hown6 _ hgr6 hat6); have HB6 := hide (HM5.out.box.keep ((below_apart (malloc1 _ _)).trans (grownBy_apart hgr6)) (fun hm => by rw [List.nil_append] at hm; have := (owns_fresh HM5.out.fi).lo _ hm; have := HM5.out.low; omega)); have l5 := HB6.out.cell 5 _ rfl; have l4 := HB6.out.cell 4 _ rfl; have lz := HB6.out.fz; obtain ⟨g6, c6, rfl, hc6, hm6, -, -⟩ := HM6.out.1.someF1; clear hown6 hgr6 hat6))
    go_ret
    have h1 := mk_popN HM10.out
    have h2 := mk_popF h1.1
    rw [HLEN.out] at h2
    refine ⟨sv2, ev2, _, _, rfl, h2.1, ((((HK5.out.trans HK8.out).trans HM9.out.2).trans HK10.out).trans h1.2).trans h2.2, ?_⟩
    refine (((((HX5.out.trans HX6.out).trans HX8.out).trans (Mk4.apart (setCell_apart w8 g6 ns.length (.int .i64 fst)) (fun b hb => ?_) (fun b hb => .inl hb))).trans HX10.out).trans (Mk4.apart (setCell_apart w10 xb 4 _) (fun b hb => .inl (by simpa using hb)) (fun b hb => .inl hb))).trans (Mk4.apart (setCell_apart _ xb 5 _) (fun b hb => .inl (by simpa using hb)) (fun b hb => .inl ?_))
    · simp at hb; subst hb; exact .inr (mem4.2 (.inr (.inr (.inr (by simp [vblocks, cellBlocks])))))
    · rw [mem4] at hb ⊢; simpa [vblocks, cellBlocks] using hb
end Go.Proofs.Ythaomohoiginnaa
