/- Acts that are handed in: their numbers are in range. -/
import Derived.Test.YthaomohoiginnaaOpenAct
import Derived.Test.YthaomohoiginnaaTurnKey
namespace Go.Proofs.Ythaomohoiginnaa
open Go.RowKit Go.ChangeShapes Go.WideShapes

theorem wf_i64 {z : Int} (h : (Lit.int .i64 z).wf = true) : i64B z := by
  simp [Lit.wf, IntKind.min, IntKind.max, IntKind.signed, IntKind.bits] at h
  exact h
theorem open_act_r {H : Type} {enc : TypeId × Value → H} {w : World} {base : Nat} {spare : Nat → Bool} {held : Bool} {fuel : Nat} {cs : List Value} {x : DataW H × List MemPlace} (h : DataW.trod enc Try.prog w base spare held fuel 55 cs = some x) :
    ∃ n : RAct, (n.ok ∧ n.rng) ∧ cs[0]? = some (.int .i64 n.kind) ∧ cs[1]? = some (.string n.peer) ∧ cs[2]? = some (.string n.label) ∧ cs[3]? = some (.int .i64 n.sort) := by
  obtain ⟨xs, n, _, _, hl, hlen, hf⟩ := DataW.trod_struct Try.underlying55 h
  have hx5 : xs.length = 4 := hlen
  match xs, hx5 with
  | [y0, y1, y2, y3], _ =>
    have g0 : DataW.trod enc Try.prog w base spare held n 2 ((cs.drop 0).take (Try.prog.cellsOf 2)) = some y0 := hf 0 _ rfl
    have g1 : DataW.trod enc Try.prog w base spare held n 9 ((cs.drop 1).take (Try.prog.cellsOf 9)) = some y1 := hf 1 _ rfl
    have g2 : DataW.trod enc Try.prog w base spare held n 9 ((cs.drop 2).take (Try.prog.cellsOf 9)) = some y2 := hf 2 _ rfl
    have g3 : DataW.trod enc Try.prog w base spare held n 2 ((cs.drop 3).take (Try.prog.cellsOf 2)) = some y3 := hf 3 _ rfl
    rw [Try.ocI] at g0 g3
    rw [Try.ocS] at g1 g2
    obtain ⟨z0, e0, _, x0⟩ := DataW.trod_int Try.underlying2 g0
    obtain ⟨z1, e1, _, k1⟩ := DataW.trod_string Try.underlying9 g1
    obtain ⟨z2, e2, _, k2⟩ := DataW.trod_string Try.underlying9 g2
    obtain ⟨z3, e3, _, x3⟩ := DataW.trod_int Try.underlying2 g3
    exact ⟨⟨z0, z1, z2, z3⟩, ⟨⟨k1, k2⟩, wf_i64 x0, wf_i64 x3⟩, m_one_of e0, m_one_of e1, m_one_of e2, m_one_of e3⟩

theorem open_acts_r {H : Type} {enc : TypeId × Value → H} {w : World} {base : Nat} {spare : Nat → Bool} {held : Bool} {fuel : Nat} {a0 : Option Addr} {len0 cap0 : Nat} {x : DataW H × List MemPlace} (h : DataW.trod enc Try.prog w base spare held fuel 61 [.slice a0 len0 cap0] = some x) :
    ∃ ns : List RAct, ns.length = len0 ∧ (∀ n ∈ ns, n.ok ∧ n.rng) ∧ ns.length ≤ maxLen ∧ (ns ≠ [] → ∃ b o, a0 = some ⟨b, o, none⟩ ∧ b < w.heap.size ∧ RActs w b o ns) := by
  rcases Go.Deep.open_slice Try.underlying61 h with ⟨h0, _⟩ | ⟨a, len, cap, m, n, D, Pl, hcs, hb, hl, hm, hmm, hx, hel⟩
  · simp at h0
    obtain ⟨rfl, rfl, rfl⟩ := h0
    exact ⟨[], rfl, by simp, Nat.zero_le _, fun h => absurd rfl h⟩
  · simp at hcs
    obtain ⟨rfl, rfl, rfl⟩ := hcs
    have hlm : len0 ≤ m := by rw [hmm]; split <;> omega
    have each : ∀ i, i < len0 → ∃ nd : RAct, (nd.ok ∧ nd.rng) ∧ ∀ b o, a = ⟨b, o, none⟩ → RActAt w b (o + i * 4) nd := by
      intro i hi
      obtain ⟨cs', h1, h2⟩ := hel i (by omega)
      rw [Try.cRAct] at h1
      obtain ⟨_, hlen, hcell⟩ := World.cells?_some h1
      obtain ⟨nd, hok, e0, e1, e2, e3⟩ := open_act_r h2
      refine ⟨nd, hok, fun b o hab => ?_⟩
      subst hab
      have pl : ∀ j, ((⟨b, o, none⟩ : Addr).add (i * 4)).add j = ⟨b, o + i * 4 + j, none⟩ := fun j => by
        rw [Go.Deep.add_add]
        unfold Addr.add
        split <;> simp_all <;> omega
      refine ⟨?_, ?_, ?_, ?_⟩
      · have := hcell 0 (by omega); rw [pl, e0] at this; exact this
      · have := hcell 1 (by omega); rw [pl, e1] at this; exact this
      · have := hcell 2 (by omega); rw [pl, e2] at this; exact this
      · have := hcell 3 (by omega); rw [pl, e3] at this; exact this
    have : Inhabited RAct := ⟨⟨0, ByteArray.empty, ByteArray.empty, 0⟩⟩
    obtain ⟨q, hq⟩ := Go.Deep.choose_lt each
    refine ⟨(List.range len0).map q, by simp, ?_, by simp; omega, fun hne => ?_⟩
    · intro x hx
      obtain ⟨i, hi, rfl⟩ := List.mem_map.1 hx
      exact (hq i (List.mem_range.1 hi)).1
    · have hpos : 0 < len0 := by
        rcases Nat.eq_zero_or_pos len0 with h | h
        · subst h; simp at hne
        · exact h
      obtain ⟨b, o, s⟩ := a
      have hsp : ∀ i, i < len0 → ((Addr.add ⟨b, o, s⟩ (i * 4)).add 0).spot = none := by
        intro i hi
        obtain ⟨cs', h1, h2⟩ := hel i (by omega)
        rw [Try.cRAct] at h1
        obtain ⟨_, hlen, hcell⟩ := World.cells?_some h1
        obtain ⟨nd, hok, e0, _⟩ := open_act_r h2
        have h0 := hcell 0 (by omega)
        rw [e0] at h0
        exact World.cell?_spot h0
      have hspot : s = none := by simpa [Addr.add] using hsp 0 hpos
      subst hspot
      have hrow : RActs w b o ((List.range len0).map q) := RActs.of w b _ o (fun j hj => by
        simp only [List.getElem_map, List.getElem_range]
        exact (hq j (by simpa using hj)).2 b o rfl)
      refine ⟨b, o, rfl, ?_, hrow⟩
      have := (hq 0 hpos).2 b o rfl
      exact this.lt

theorem open_act_arg {H : Type} {enc : TypeId × Value → H} {w : World} {base : Nat} {spare : Nat → Bool} {held : Bool} {fuel : Nat} {cs : Array Value} {x : DataW H × List MemPlace} (hsz : cs.size = Try.prog.cellsOf 55) (h : DataW.trod enc Try.prog w base spare held fuel 55 cs.toList = some x) :
    ∃ a : RAct, Value.agg cs = a.val ∧ a.ok ∧ a.rng := by
  rw [Try.cRAct] at hsz
  obtain ⟨a, ⟨h1, h2⟩, e0, e1, e2, e3⟩ := open_act_r h
  obtain ⟨l⟩ := cs
  match l, hsz with
  | [x0, x1, x2, x3], _ =>
    simp at e0 e1 e2 e3
    subst e0 e1 e2 e3
    exact ⟨a, rfl, h1, h2⟩
end Go.Proofs.Ythaomohoiginnaa
