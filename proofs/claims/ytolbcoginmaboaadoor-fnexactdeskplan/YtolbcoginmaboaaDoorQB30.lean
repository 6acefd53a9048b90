/- l02Text: at every right beginning. -/
import Derived.Test.YtolbcoginmaboaaDoorQB28
import Derived.Test.YtolbcoginmaboaaDoorQB07
import Derived.Test.YtolbcoginmaboaaDoorQB08
import Derived.Laws.Concat
import Derived.Test.YtolbcoginmaboaaDoorQB29
namespace Go.Proofs.YtolbcoginmaboaaDoor
open Go.RowKit

theorem s_sortText (n : Int) (w : World) (h0 : 0 ≤ n) (h2 : n ≤ 2) :
    Calls Tryd.prog 56 #[.int .i64 n] w fun e w' => e = .returned (.string (sortT n)) ∧ Below w.heap.size w w' := by
  rcases (show n = 0 ∨ n = 1 ∨ n = 2 by omega) with h | h | h
  all_goals
    subst h
    go_enter Tryd.func56, Tryd.ntmps56
    go_wp2_with fail
    go_ret
    exact ⟨ret_str rfl, alloc1 _ _⟩

/-- a row in memory, as a slice's value -/
def ArrAt (w : World) (v : Value) (all : List Nd) : Prop :=
  ∃ b o cap, v = .slice (some ⟨b, o, none⟩) all.length cap ∧ all.length ≤ cap ∧ all.length ≤ 4294967296 ∧ RowAt w b o all ∧ b < w.heap.size
theorem ArrAt.carry {w w' : World} {v : Value} {all : List Nd} (h : ArrAt w v all) (hb : Below w.heap.size w w') : ArrAt w' v all := by
  obtain ⟨b, o, cap, e, h1, h2, h3, h4⟩ := h
  exact ⟨b, o, cap, e, h1, h2, h3.carry h4 hb, Nat.lt_of_lt_of_le h4 hb.size⟩

theorem joinC_snoc : ∀ {acc : List ByteArray} {x : ByteArray}, acc ≠ [] → joinC (acc ++ [x]) = joinC acc ++ ba [44] ++ x
  | [], _, h => absurd rfl h
  | [t], x, _ => rfl
  | t :: u :: ts, x, _ => by
    have ih := joinC_snoc (acc := u :: ts) (x := x) (by simp)
    rw [joinC, List.cons_append, List.cons_append, joinC]
    rw [← List.cons_append, ih]
    apply ba_ext
    simp
theorem step_concat {P : Program} {ops : Array Oper} {o : Oper} {a : Act} {w : World} {K : Act → World → Prop} {Q : Exit → Act → World → Prop} {E : Prop}
    (hg : o.guard = none) (x y : Operand) (ty tz : TypeId) (hop : o.op = Op.binOp BinOp.add ty x y tz) (s t : ByteArray) (hx : a.eval x = .string s) (hy : a.eval y = .string t) (hb : s.size + t.size ≤ 100000)
    (hK : K (a.put o.dst (.string (s ++ t))) w) :
    if Region.wanted o (yielded ops a.tmps) = true then Oper.wp P o a w K Q else E := by
  have hw : Region.wanted o (yielded ops a.tmps) = true := by simp [Region.wanted, hg]
  rw [if_pos hw]
  unfold Oper.wp
  have hr := run_string_add_sum (P := P) w s t (by omega)
  have he : (eqGuard BinOp.add ty x y (.string s) (.string t)).run P w = .ok () w := by simp [eqGuard]
  simp [execOp, hop, hx, hy, Go.binOp, Result.andThen]
  rw [he]
  simp only [hr]
  exact hK

def STextCalls (part : Bool) (f : Nat) : Prop := ∀ (st all r : List Nd) (pos : Nat) (a : Int) (v : Value) (w : World), st.length + f = 10 → StW st → a = pos → pos ≤ all.length → all.length ≤ 40 → ahead (talkS part) f st (all.drop pos) = some r → ArrAt w v all →
  Calls Tryd.prog 41 #[v, .int .i64 a] w fun e w' => e = .returned (.tuple #[.string (textF f (all.drop pos)).1, .int .i64 ((all.length - r.length : Nat) : Int)]) ∧ Below w.heap.size w w'

end Go.Proofs.YtolbcoginmaboaaDoor
/- The law's own helpers: how great a row of Nodes is; whether two are alike. -/
namespace Go.Proofs.YtolbcoginmaboaaDoor
open Go.RowKit

set_option maxHeartbeats 400000 in
theorem sz_node (n : Nd) (left : Int) (w : World) (ok : n.ok) (hl : 0 ≤ left) (hm : left ≤ 1048576) :
    Calls Tryd.prog 29 #[n.val, .int .i64 left] w fun e w' => ∃ r : Int, e = .returned (.int .i64 r) ∧ r ≤ 1048576 ∧ (0 ≤ r → n.fit) ∧ Below w.heap.size w w' := by
  obtain ⟨h1, h2⟩ := ok
  unfold maxLen at h1 h2
  have HFI := hide (show n.fit = (n.name.size ≤ 1048576 ∧ n.peer.size ≤ 1048576) from rfl)
  unfold Nd.val
  by_cases a1 : left - n.name.size < 0
  · go_enter Tryd.func29, Tryd.ntmps29
    go_wp2_with fail
    go_ret
    exact ⟨_, rfl, by omega, fun h => absurd h (by omega), alloc1 _ _⟩
  · by_cases a2 : left - n.name.size - n.peer.size < 0
    · go_enter Tryd.func29, Tryd.ntmps29
      go_wp2_with fail
      go_ret
      exact ⟨_, rfl, by omega, fun h => absurd h (by omega), alloc1 _ _⟩
    · go_enter Tryd.func29, Tryd.ntmps29
      go_wp2_with fail
      go_ret
      exact ⟨_, rfl, by omega, fun h => by rw [HFI.out]; omega, alloc1 _ _⟩

set_option maxHeartbeats 400000 in
theorem sz_nodes (ns : List Nd) (ao : Option Addr) (cap : Nat) (w : World) (ok : ∀ n ∈ ns, n.ok) (hl : ns.length ≤ maxLen) (hr : ns ≠ [] → ∃ b o, ao = some ⟨b, o, none⟩ ∧ b < w.heap.size ∧ RowAt w b o ns) :
    Calls Tryd.prog 8 #[.slice ao ns.length cap, .int .i64 1048576] w fun e w' => ∃ r : Int, e = .returned (.int .i64 r) ∧ (0 ≤ r → ns.length ≤ 1048576 ∧ ∀ n ∈ ns, n.fit) ∧ Below w.heap.size w w' := by
  have HR := hide hr
  have HOK := hide ok
  unfold maxLen at hl
  clear hr ok
  by_cases h0 : ns.length ≤ 1048576
  · go_enter Tryd.func8, Tryd.ntmps8
    go_wp2_with fail
    go_loopw [1, 5] (fun lf i wr => ∃ (k : Nat) (l : Int), k ≤ ns.length ∧ i = .int .i64 k ∧ lf = .int .i64 l ∧ 0 ≤ l ∧ l ≤ 1048576 ∧ (∀ j (h : j < ns.length), j < k → ns[j].fit) ∧ Below w.heap.size w wr)
      (fun _ i _ => ns.length - (intOf i).toNat)
    case atStart => exact ⟨0, 1048576 - (ns.length : Int), Nat.zero_le _, rfl, rfl, by omega, by omega, fun j _ h => absurd h (by omega), Below.refl _ _⟩
    case round =>
      obtain ⟨k, l, hk, rfl, rfl, hl0, hl1, hall, hbel⟩ := hrel
      have HA := hide hall
      have HBEL := hide hbel
      have hszr := hbel.size
      clear hall hbel
      by_cases hlt : k < ns.length
      · obtain ⟨b, o, rfl, hbB, hrow⟩ := HR.out (by intro h; simp [h] at hlt)
        have hnode := (hrow.get k hlt).carry hbB HBEL.out
        obtain ⟨n1, hn1⟩ : ∃ n1, n1 = ns[k] := ⟨_, rfl⟩
        rw [← hn1] at hnode
        have HN := hide hn1
        have HN1 := hide (show n1.ok by rw [hn1]; exact HOK.out _ (List.getElem_mem hlt))
        clear hn1 hrow
        have hbw : b < wr.heap.size := hnode.lt
        obtain ⟨c0, c1, c2, c3, c4⟩ := hnode
        go_wp2_with (go_at_call 29; refine (sz_node n1 l _ HN1.out hl0 hl1).mono ?_; rintro e w1 ⟨r, rfl, hr1, hrf, hb1⟩; have HRF := hide hrf; have HB1 := hide hb1; clear hrf hb1)
        all_goals
          first
            | (go_ret
               exact ⟨_, rfl, fun h => absurd h (by omega), HBEL.out.trans (HB1.out.mono hszr)⟩)
            | (go_roundw
               case rel =>
                 refine ⟨k + 1, r, by omega, by go_num, rfl, by omega, hr1, fun j hj hjk => ?_, HBEL.out.trans (HB1.out.mono hszr)⟩
                 by_cases hjk' : j = k
                 · subst hjk'; rw [← HN.out]; exact HRF.out (by omega)
                 · exact HA.out j hj (by omega)
               case measure => simp [intOf]; omega)
      · go_wp2_with fail
        go_ret
        refine ⟨_, rfl, fun _ => ⟨h0, fun n hn => ?_⟩, HBEL.out⟩
        obtain ⟨j, hj, rfl⟩ := List.getElem_of_mem hn
        exact HA.out j hj (by omega)
  · go_enter Tryd.func8, Tryd.ntmps8
    go_wp2_with fail
    go_ret
    exact ⟨_, rfl, fun h => absurd h (by omega), Below.refl _ _⟩

theorem eq_node (n : Nd) (w : World) :
    Calls Tryd.prog 34 #[n.val, n.val] w fun e w' => e = .returned (.bool true) ∧ Below w.heap.size w w' := by
  unfold Nd.val
  go_enter Tryd.func34, Tryd.ntmps34
  go_wp2_with fail
  go_ret
  exact ⟨rfl, (alloc1 _ _).trans ((alloc1 _ _).mono (by simp))⟩

set_option maxHeartbeats 400000 in
theorem eq_nodes (ns : List Nd) (v u : Value) (w : World) (hv : SlAt w w.heap.size v ns) (hu : SlAt w w.heap.size u ns) :
    Calls Tryd.prog 12 #[v, u] w fun e w' => e = .returned (.bool true) ∧ Below w.heap.size w w' := by
  obtain ⟨ao, cap, rfl, hc, hm, hr⟩ := hv
  obtain ⟨ao', cap', rfl, hc', hm', hr'⟩ := hu
  have HR := hide hr
  have HR' := hide hr'
  clear hr hr'
  go_enter Tryd.func12, Tryd.ntmps12
  go_wp2_with fail
  go_loopw [5] (fun i wr => ∃ k : Nat, k ≤ ns.length ∧ i = .int .i64 k ∧ Below w.heap.size w wr) (fun i _ => ns.length - (intOf i).toNat)
  case atStart => exact ⟨0, Nat.zero_le _, rfl, Below.refl _ _⟩
  case round =>
    obtain ⟨k, hk, rfl, hbel⟩ := hrel
    have HBEL := hide hbel
    have hszr := hbel.size
    clear hbel
    by_cases hlt : k < ns.length
    · obtain ⟨b, o, rfl, hbB, hrow⟩ := HR.out (by intro h; simp [h] at hlt)
      obtain ⟨b', o', rfl, hbB', hrow'⟩ := HR'.out (by intro h; simp [h] at hlt)
      have hnode := (hrow.get k hlt).carry hbB HBEL.out
      have hnode' := (hrow'.get k hlt).carry hbB' HBEL.out
      obtain ⟨n1, hn1⟩ : ∃ n1, n1 = ns[k] := ⟨_, rfl⟩
      rw [← hn1] at hnode hnode'
      clear hn1 hrow hrow'
      obtain ⟨c0, c1, c2, c3, c4⟩ := hnode
      obtain ⟨d0, d1, d2, d3, d4⟩ := hnode'
      go_wp2_with fail
      go_region_with (go_at_call 34; refine (eq_node n1 _).mono ?_; rintro e w1 ⟨rfl, hb1⟩; have HB1 := hide hb1; clear hb1)
      go_wp2_with fail
      all_goals
        go_roundw
        case rel => exact ⟨k + 1, by omega, by go_num, by first | exact HBEL.out.trans (HB1.out.mono hszr) | exact HBEL.out.drew.trans (HB1.out.mono hszr) | exact HBEL.out.drew.drew.trans (HB1.out.mono hszr)⟩
        case measure => simp [intOf]; omega
    · go_wp2_with fail
      go_ret
      exact ⟨rfl, HBEL.out⟩
end Go.Proofs.YtolbcoginmaboaaDoor
