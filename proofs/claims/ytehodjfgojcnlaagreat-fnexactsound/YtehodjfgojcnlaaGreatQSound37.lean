/- The law's own helpers: how great a row of Nodes is; whether two are alike. -/
import Derived.Test.YtehodjfgojcnlaaGreatQSound36
import Derived.Deep.Slices
import Derived.ChangeArms
import Derived.ChangeSame
import Derived.WalkKit
namespace Go.Proofs.YtehodjfgojcnlaaGreat
open Go.RowKit

set_option maxHeartbeats 400000 in
theorem sz_node (n : Nd) (left : Int) (w : World) (ok : n.ok) (hl : 0 ≤ left) (hm : left ≤ 1048576) :
    Calls Tryz.prog 9 #[n.val, .int .i64 left] w fun e w' => ∃ r : Int, e = .returned (.int .i64 r) ∧ r ≤ 1048576 ∧ (0 ≤ r → n.fit) ∧ Below w.heap.size w w' := by
  obtain ⟨h1, h2⟩ := ok
  unfold maxLen at h1 h2
  have HFI := hide (show n.fit = (n.name.size ≤ 1048576 ∧ n.peer.size ≤ 1048576) from rfl)
  unfold Nd.val
  by_cases a1 : left - n.name.size < 0
  · go_enter Tryz.func9, Tryz.ntmps9
    go_wp2_with fail
    go_ret
    exact ⟨_, rfl, by omega, fun h => absurd h (by omega), alloc1 _ _⟩
  · by_cases a2 : left - n.name.size - n.peer.size < 0
    · go_enter Tryz.func9, Tryz.ntmps9
      go_wp2_with fail
      go_ret
      exact ⟨_, rfl, by omega, fun h => absurd h (by omega), alloc1 _ _⟩
    · go_enter Tryz.func9, Tryz.ntmps9
      go_wp2_with fail
      go_ret
      exact ⟨_, rfl, by omega, fun h => by rw [HFI.out]; omega, alloc1 _ _⟩

set_option maxHeartbeats 400000 in
theorem sz_nodes (ns : List Nd) (ao : Option Addr) (cap : Nat) (w : World) (ok : ∀ n ∈ ns, n.ok) (hl : ns.length ≤ maxLen) (hr : ns ≠ [] → ∃ b o, ao = some ⟨b, o, none⟩ ∧ b < w.heap.size ∧ RowAt w b o ns) :
    Calls Tryz.prog 4 #[.slice ao ns.length cap, .int .i64 1048576] w fun e w' => ∃ r : Int, e = .returned (.int .i64 r) ∧ (0 ≤ r → ns.length ≤ 1048576 ∧ ∀ n ∈ ns, n.fit) ∧ Below w.heap.size w w' := by
  have HR := hide hr
  have HOK := hide ok
  unfold maxLen at hl
  clear hr ok
  by_cases h0 : ns.length ≤ 1048576
  · go_enter Tryz.func4, Tryz.ntmps4
    go_wp2_with fail
    go_loopw [1, 5] (fun lf i wr => ∃ (k : Nat) (l : Int), k ≤ ns.length ∧ i = .int .i64 k ∧ lf = .int .i64 l ∧ 0 ≤ l ∧ l ≤ 1048576 ∧ (∀ j (h : j < ns.length), j < k → ns[j].fit) ∧ Below w.heap.size w wr)
      (fun _ i _ => ns.length - (intOf i).toNat)
    case atStart => exact ⟨0, 1048576 - (ns.length : Int), Nat.zero_le _, rfl, rfl, by omega, by omega, fun j _ h => absurd h (by omega), Below.refl _ _⟩
    case round =>
      obtain ⟨k, l, hk, rfl, rfl, hl0, hl1, hall, hbel⟩ := hrel
      have HA := hide hall
      have HBEL := hide hbel
      have hszr := hbel.size
      clear hall hbel
      by_cases hlt : k < ns.length
      · obtain ⟨b, o, rfl, hbB, hrow⟩ := HR.out (by intro h; simp [h] at hlt)
        have hnode := (hrow.get k hlt).carry hbB HBEL.out
        obtain ⟨n1, hn1⟩ : ∃ n1, n1 = ns[k] := ⟨_, rfl⟩
        rw [← hn1] at hnode
        have HN := hide hn1
        have HN1 := hide (show n1.ok by rw [hn1]; exact HOK.out _ (List.getElem_mem hlt))
        clear hn1 hrow
        have hbw : b < wr.heap.size := hnode.lt
        obtain ⟨c0, c1, c2, c3, c4⟩ := hnode
        go_wp2_with (go_at_call 9; refine (sz_node n1 l _ HN1.out hl0 hl1).mono ?_; rintro e w1 ⟨r, rfl, hr1, hrf, hb1⟩; have HRF := hide hrf; have HB1 := hide hb1; clear hrf hb1)
        all_goals
          first
            | (go_ret
               exact ⟨_, rfl, fun h => absurd h (by omega), HBEL.out.trans (HB1.out.mono hszr)⟩)
            | (go_roundw
               case rel =>
                 refine ⟨k + 1, r, by omega, by go_num, rfl, by omega, hr1, fun j hj hjk => ?_, HBEL.out.trans (HB1.out.mono hszr)⟩
                 by_cases hjk' : j = k
                 · subst hjk'; rw [← HN.out]; exact HRF.out (by omega)
                 · exact HA.out j hj (by omega)
               case measure => simp [intOf]; omega)
      · go_wp2_with fail
        go_ret
        refine ⟨_, rfl, fun _ => ⟨h0, fun n hn => ?_⟩, HBEL.out⟩
        obtain ⟨j, hj, rfl⟩ := List.getElem_of_mem hn
        exact HA.out j hj (by omega)
  · go_enter Tryz.func4, Tryz.ntmps4
    go_wp2_with fail
    go_ret
    exact ⟨_, rfl, fun h => absurd h (by omega), Below.refl _ _⟩

theorem eq_node (n : Nd) (w : World) :
    Calls Tryz.prog 16 #[n.val, n.val] w fun e w' => e = .returned (.bool true) ∧ Below w.heap.size w w' := by
  unfold Nd.val
  go_enter Tryz.func16, Tryz.ntmps16
  go_wp2_with fail
  go_ret
  exact ⟨rfl, (alloc1 _ _).trans ((alloc1 _ _).mono (by simp))⟩

set_option maxHeartbeats 400000 in
theorem eq_nodes (ns : List Nd) (v u : Value) (w : World) (hv : SlAt w w.heap.size v ns) (hu : SlAt w w.heap.size u ns) :
    Calls Tryz.prog 8 #[v, u] w fun e w' => e = .returned (.bool true) ∧ Below w.heap.size w w' := by
  obtain ⟨ao, cap, rfl, hc, hm, hr⟩ := hv
  obtain ⟨ao', cap', rfl, hc', hm', hr'⟩ := hu
  have HR := hide hr
  have HR' := hide hr'
  clear hr hr'
  go_enter Tryz.func8, Tryz.ntmps8
  go_wp2_with fail
  go_loopw [5] (fun i wr => ∃ k : Nat, k ≤ ns.length ∧ i = .int .i64 k ∧ Below w.heap.size w wr) (fun i _ => ns.length - (intOf i).toNat)
  case atStart => exact ⟨0, Nat.zero_le _, rfl, Below.refl _ _⟩
  case round =>
    obtain ⟨k, hk, rfl, hbel⟩ := hrel
    have HBEL := hide hbel
    have hszr := hbel.size
    clear hbel
    by_cases hlt : k < ns.length
    · obtain ⟨b, o, rfl, hbB, hrow⟩ := HR.out (by intro h; simp [h] at hlt)
      obtain ⟨b', o', rfl, hbB', hrow'⟩ := HR'.out (by intro h; simp [h] at hlt)
      have hnode := (hrow.get k hlt).carry hbB HBEL.out
      have hnode' := (hrow'.get k hlt).carry hbB' HBEL.out
      obtain ⟨n1, hn1⟩ : ∃ n1, n1 = ns[k] := ⟨_, rfl⟩
      rw [← hn1] at hnode hnode'
      clear hn1 hrow hrow'
      obtain ⟨c0, c1, c2, c3, c4⟩ := hnode
      obtain ⟨d0, d1, d2, d3, d4⟩ := hnode'
      go_wp2_with fail
      go_region_with (go_at_call 16; refine (eq_node n1 _).mono ?_; rintro e w1 ⟨rfl, hb1⟩; have HB1 := hide hb1; clear hb1)
      go_wp2_with fail
      all_goals
        go_roundw
        case rel => exact ⟨k + 1, by omega, by go_num, by first | exact HBEL.out.trans (HB1.out.mono hszr) | exact HBEL.out.drew.trans (HB1.out.mono hszr) | exact HBEL.out.drew.drew.trans (HB1.out.mono hszr)⟩
        case measure => simp [intOf]; omega
    · go_wp2_with fail
      go_ret
      exact ⟨rfl, HBEL.out⟩
end Go.Proofs.YtehodjfgojcnlaaGreat
/- A row of Nodes that is handed in, opened. -/
namespace Go.Proofs.YtehodjfgojcnlaaGreat
open Go.RowKit Go.ChangeShapes Go.WideShapes

theorem Tryz.cN : Tryz.prog.cellsOf 31 = 5 := by kernel_rfl
theorem Tryz.cI : Tryz.prog.cellsOf 2 = 1 := by kernel_rfl
theorem Tryz.cS : Tryz.prog.cellsOf 9 = 1 := by kernel_rfl

theorem one_of {α : Type} {l : List α} {j : Nat} {v : α} (h : (l.drop j).take 1 = [v]) : l[j]? = some v := by
  have h1 : ((l.drop j).take 1)[0]? = some v := by rw [h]; rfl
  rw [List.getElem?_take, if_pos (by omega), List.getElem?_drop] at h1
  simpa using h1

theorem open_node {H : Type} {enc : TypeId × Value → H} {w : World} {base : Nat} {spare : Nat → Bool} {held : Bool} {fuel : Nat} {cs : List Value} {x : DataW H × List MemPlace} (h : DataW.trod enc Tryz.prog w base spare held fuel 31 cs = some x) :
    ∃ n : Nd, n.ok ∧ cs[0]? = some (.int .i64 n.op) ∧ cs[1]? = some (.string n.name) ∧ cs[2]? = some (.string n.peer) ∧ cs[3]? = some (.int .i64 n.many) ∧ cs[4]? = some (.int .i64 n.sort) := by
  obtain ⟨xs, n, _, _, hl, hlen, hf⟩ := DataW.trod_struct Tryz.underlying31 h
  have hx5 : xs.length = 5 := hlen
  match xs, hx5 with
  | [y0, y1, y2, y3, y4], _ =>
    have g0 : DataW.trod enc Tryz.prog w base spare held n 2 ((cs.drop 0).take (Tryz.prog.cellsOf 2)) = some y0 := hf 0 _ rfl
    have g1 : DataW.trod enc Tryz.prog w base spare held n 9 ((cs.drop 1).take (Tryz.prog.cellsOf 9)) = some y1 := hf 1 _ rfl
    have g2 : DataW.trod enc Tryz.prog w base spare held n 9 ((cs.drop 2).take (Tryz.prog.cellsOf 9)) = some y2 := hf 2 _ rfl
    have g3 : DataW.trod enc Tryz.prog w base spare held n 2 ((cs.drop 3).take (Tryz.prog.cellsOf 2)) = some y3 := hf 3 _ rfl
    have g4 : DataW.trod enc Tryz.prog w base spare held n 2 ((cs.drop 4).take (Tryz.prog.cellsOf 2)) = some y4 := hf 4 _ rfl
    rw [Tryz.cI] at g0 g3 g4
    rw [Tryz.cS] at g1 g2
    obtain ⟨z0, e0, _⟩ := DataW.trod_int Tryz.underlying2 g0
    obtain ⟨s1, e1, _, k1⟩ := DataW.trod_string Tryz.underlying9 g1
    obtain ⟨s2, e2, _, k2⟩ := DataW.trod_string Tryz.underlying9 g2
    obtain ⟨z3, e3, _⟩ := DataW.trod_int Tryz.underlying2 g3
    obtain ⟨z4, e4, _⟩ := DataW.trod_int Tryz.underlying2 g4
    exact ⟨⟨z0, s1, s2, z3, z4⟩, ⟨k1, k2⟩, one_of e0, one_of e1, one_of e2, one_of e3, one_of e4⟩

theorem open_nodes {H : Type} {enc : TypeId × Value → H} {w : World} {base : Nat} {spare : Nat → Bool} {held : Bool} {fuel : Nat} {a0 : Option Addr} {len0 cap0 : Nat} {x : DataW H × List MemPlace} (h : DataW.trod enc Tryz.prog w base spare held fuel 22 [.slice a0 len0 cap0] = some x) :
    ∃ ns : List Nd, ns.length = len0 ∧ (∀ n ∈ ns, n.ok) ∧ ns.length ≤ maxLen ∧ (ns ≠ [] → ∃ b o, a0 = some ⟨b, o, none⟩ ∧ b < w.heap.size ∧ RowAt w b o ns) := by
  rcases Go.Deep.open_slice Tryz.underlying22 h with ⟨h0, _⟩ | ⟨a, len, cap, m, n, D, Pl, hcs, hb, hl, hm, hmm, hx, hel⟩
  · simp at h0
    obtain ⟨rfl, rfl, rfl⟩ := h0
    exact ⟨[], rfl, by simp, Nat.zero_le _, fun h => absurd rfl h⟩
  · simp at hcs
    obtain ⟨rfl, rfl, rfl⟩ := hcs
    have hlm : len0 ≤ m := by rw [hmm]; split <;> omega
    have each : ∀ i, i < len0 → ∃ nd : Nd, nd.ok ∧ ∀ b o, a = ⟨b, o, none⟩ → NodeAt w b (o + i * 5) nd := by
      intro i hi
      obtain ⟨cs', h1, h2⟩ := hel i (by omega)
      rw [Tryz.cN] at h1
      obtain ⟨_, hlen, hcell⟩ := World.cells?_some h1
      obtain ⟨nd, hok, e0, e1, e2, e3, e4⟩ := open_node h2
      refine ⟨nd, hok, fun b o hab => ?_⟩
      subst hab
      have pl : ∀ j, ((⟨b, o, none⟩ : Addr).add (i * 5)).add j = ⟨b, o + i * 5 + j, none⟩ := fun j => by
        rw [Go.Deep.add_add]
        unfold Addr.add
        split <;> simp_all <;> omega
      refine ⟨?_, ?_, ?_, ?_, ?_⟩
      · have := hcell 0 (by omega); rw [pl, e0] at this; exact this
      · have := hcell 1 (by omega); rw [pl, e1] at this; exact this
      · have := hcell 2 (by omega); rw [pl, e2] at this; exact this
      · have := hcell 3 (by omega); rw [pl, e3] at this; exact this
      · have := hcell 4 (by omega); rw [pl, e4] at this; exact this
    have : Inhabited Nd := ⟨⟨0, ByteArray.empty, ByteArray.empty, 0, 0⟩⟩
    obtain ⟨q, hq⟩ := Go.Deep.choose_lt each
    refine ⟨(List.range len0).map q, by simp, ?_, by simp; omega, fun hne => ?_⟩
    · intro x hx
      obtain ⟨i, hi, rfl⟩ := List.mem_map.1 hx
      exact (hq i (List.mem_range.1 hi)).1
    · have hpos : 0 < len0 := by
        rcases Nat.eq_zero_or_pos len0 with h | h
        · subst h; simp at hne
        · exact h
      obtain ⟨b, o, s⟩ := a
      have hsp : ∀ i, i < len0 → ((Addr.add ⟨b, o, s⟩ (i * 5)).add 0).spot = none := by
        intro i hi
        obtain ⟨cs', h1, h2⟩ := hel i (by omega)
        rw [Tryz.cN] at h1
        obtain ⟨_, hlen, hcell⟩ := World.cells?_some h1
        obtain ⟨nd, hok, e0, _⟩ := open_node h2
        have h0 := hcell 0 (by omega)
        rw [e0] at h0
        exact World.cell?_spot h0
      have hspot : s = none := by simpa [Addr.add] using hsp 0 hpos
      subst hspot
      have hrow : RowAt w b o ((List.range len0).map q) := rowsOf w b _ o (fun j hj => by
        simp only [List.getElem_map, List.getElem_range]
        exact (hq j (by simpa using hj)).2 b o rfl)
      refine ⟨b, o, rfl, ?_, hrow⟩
      have := (hq 0 hpos).2 b o rfl
      exact this.lt
end Go.Proofs.YtehodjfgojcnlaaGreat
