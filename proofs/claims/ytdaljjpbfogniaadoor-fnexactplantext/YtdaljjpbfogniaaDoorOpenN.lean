/- A row of Nodes that is handed in, opened. -/
import Derived.Test.YtdaljjpbfogniaaDoorLw2
import Derived.Deep.Slices
import Derived.ChangeArms
import Derived.ChangeSame
import Derived.WalkKit
namespace Go.Proofs.YtdaljjpbfogniaaDoor
open Go.RowKit Go.ChangeShapes Go.WideShapes

theorem Tryd.cN : Tryd.prog.cellsOf 42 = 5 := by kernel_rfl
theorem Tryd.cI : Tryd.prog.cellsOf 2 = 1 := by kernel_rfl
theorem Tryd.cS : Tryd.prog.cellsOf 9 = 1 := by kernel_rfl

theorem one_of {α : Type} {l : List α} {j : Nat} {v : α} (h : (l.drop j).take 1 = [v]) : l[j]? = some v := by
  have h1 : ((l.drop j).take 1)[0]? = some v := by rw [h]; rfl
  rw [List.getElem?_take, if_pos (by omega), List.getElem?_drop] at h1
  simpa using h1

theorem open_node {H : Type} {enc : TypeId × Value → H} {w : World} {base : Nat} {spare : Nat → Bool} {held : Bool} {fuel : Nat} {cs : List Value} {x : DataW H × List MemPlace} (h : DataW.trod enc Tryd.prog w base spare held fuel 42 cs = some x) :
    ∃ n : Nd, n.ok ∧ cs[0]? = some (.int .i64 n.op) ∧ cs[1]? = some (.string n.name) ∧ cs[2]? = some (.string n.peer) ∧ cs[3]? = some (.int .i64 n.many) ∧ cs[4]? = some (.int .i64 n.sort) := by
  obtain ⟨xs, n, _, _, hl, hlen, hf⟩ := DataW.trod_struct Tryd.underlying42 h
  have hx5 : xs.length = 5 := hlen
  match xs, hx5 with
  | [y0, y1, y2, y3, y4], _ =>
    have g0 : DataW.trod enc Tryd.prog w base spare held n 2 ((cs.drop 0).take (Tryd.prog.cellsOf 2)) = some y0 := hf 0 _ rfl
    have g1 : DataW.trod enc Tryd.prog w base spare held n 9 ((cs.drop 1).take (Tryd.prog.cellsOf 9)) = some y1 := hf 1 _ rfl
    have g2 : DataW.trod enc Tryd.prog w base spare held n 9 ((cs.drop 2).take (Tryd.prog.cellsOf 9)) = some y2 := hf 2 _ rfl
    have g3 : DataW.trod enc Tryd.prog w base spare held n 2 ((cs.drop 3).take (Tryd.prog.cellsOf 2)) = some y3 := hf 3 _ rfl
    have g4 : DataW.trod enc Tryd.prog w base spare held n 2 ((cs.drop 4).take (Tryd.prog.cellsOf 2)) = some y4 := hf 4 _ rfl
    rw [Tryd.cI] at g0 g3 g4
    rw [Tryd.cS] at g1 g2
    obtain ⟨z0, e0, _⟩ := DataW.trod_int Tryd.underlying2 g0
    obtain ⟨s1, e1, _, k1⟩ := DataW.trod_string Tryd.underlying9 g1
    obtain ⟨s2, e2, _, k2⟩ := DataW.trod_string Tryd.underlying9 g2
    obtain ⟨z3, e3, _⟩ := DataW.trod_int Tryd.underlying2 g3
    obtain ⟨z4, e4, _⟩ := DataW.trod_int Tryd.underlying2 g4
    exact ⟨⟨z0, s1, s2, z3, z4⟩, ⟨k1, k2⟩, one_of e0, one_of e1, one_of e2, one_of e3, one_of e4⟩

theorem open_nodes {H : Type} {enc : TypeId × Value → H} {w : World} {base : Nat} {spare : Nat → Bool} {held : Bool} {fuel : Nat} {a0 : Option Addr} {len0 cap0 : Nat} {x : DataW H × List MemPlace} (h : DataW.trod enc Tryd.prog w base spare held fuel 22 [.slice a0 len0 cap0] = some x) :
    ∃ ns : List Nd, ns.length = len0 ∧ (∀ n ∈ ns, n.ok) ∧ ns.length ≤ maxLen ∧ (ns ≠ [] → ∃ b o, a0 = some ⟨b, o, none⟩ ∧ b < w.heap.size ∧ RowAt w b o ns) := by
  rcases Go.Deep.open_slice Tryd.underlying22 h with ⟨h0, _⟩ | ⟨a, len, cap, m, n, D, Pl, hcs, hb, hl, hm, hmm, hx, hel⟩
  · simp at h0
    obtain ⟨rfl, rfl, rfl⟩ := h0
    exact ⟨[], rfl, by simp, Nat.zero_le _, fun h => absurd rfl h⟩
  · simp at hcs
    obtain ⟨rfl, rfl, rfl⟩ := hcs
    have hlm : len0 ≤ m := by rw [hmm]; split <;> omega
    have each : ∀ i, i < len0 → ∃ nd : Nd, nd.ok ∧ ∀ b o, a = ⟨b, o, none⟩ → NodeAt w b (o + i * 5) nd := by
      intro i hi
      obtain ⟨cs', h1, h2⟩ := hel i (by omega)
      rw [Tryd.cN] at h1
      obtain ⟨_, hlen, hcell⟩ := World.cells?_some h1
      obtain ⟨nd, hok, e0, e1, e2, e3, e4⟩ := open_node h2
      refine ⟨nd, hok, fun b o hab => ?_⟩
      subst hab
      have pl : ∀ j, ((⟨b, o, none⟩ : Addr).add (i * 5)).add j = ⟨b, o + i * 5 + j, none⟩ := fun j => by
        rw [Go.Deep.add_add]
        unfold Addr.add
        split <;> simp_all <;> omega
      refine ⟨?_, ?_, ?_, ?_, ?_⟩
      · have := hcell 0 (by omega); rw [pl, e0] at this; exact this
      · have := hcell 1 (by omega); rw [pl, e1] at this; exact this
      · have := hcell 2 (by omega); rw [pl, e2] at this; exact this
      · have := hcell 3 (by omega); rw [pl, e3] at this; exact this
      · have := hcell 4 (by omega); rw [pl, e4] at this; exact this
    have : Inhabited Nd := ⟨⟨0, ByteArray.empty, ByteArray.empty, 0, 0⟩⟩
    obtain ⟨q, hq⟩ := Go.Deep.choose_lt each
    refine ⟨(List.range len0).map q, by simp, ?_, by simp; omega, fun hne => ?_⟩
    · intro x hx
      obtain ⟨i, hi, rfl⟩ := List.mem_map.1 hx
      exact (hq i (List.mem_range.1 hi)).1
    · have hpos : 0 < len0 := by
        rcases Nat.eq_zero_or_pos len0 with h | h
        · subst h; simp at hne
        · exact h
      obtain ⟨b, o, s⟩ := a
      have hsp : ∀ i, i < len0 → ((Addr.add ⟨b, o, s⟩ (i * 5)).add 0).spot = none := by
        intro i hi
        obtain ⟨cs', h1, h2⟩ := hel i (by omega)
        rw [Tryd.cN] at h1
        obtain ⟨_, hlen, hcell⟩ := World.cells?_some h1
        obtain ⟨nd, hok, e0, _⟩ := open_node h2
        have h0 := hcell 0 (by omega)
        rw [e0] at h0
        exact World.cell?_spot h0
      have hspot : s = none := by simpa [Addr.add] using hsp 0 hpos
      subst hspot
      have hrow : RowAt w b o ((List.range len0).map q) := row_of w b _ o (fun j hj => by
        simp only [List.getElem_map, List.getElem_range]
        exact (hq j (by simpa using hj)).2 b o rfl)
      refine ⟨b, o, rfl, ?_, hrow⟩
      have := (hq 0 hpos).2 b o rfl
      exact this.lt
end Go.Proofs.YtdaljjpbfogniaaDoor
