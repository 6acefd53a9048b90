/- Messages that are handed in: their sort is in range. -/
import Derived.Test.YtonafcifolddjaaDoorOpenMsg
namespace Go.Proofs.YtonafcifolddjaaDoor
open Go.RowKit Go.ChangeShapes Go.WideShapes

def RMsg.rng (m : RMsg) : Prop := -9223372036854775808 ≤ m.sort ∧ m.sort ≤ 9223372036854775807
theorem msg_wf {z : Int} (h : (Lit.int .i64 z).wf = true) : -9223372036854775808 ≤ z ∧ z ≤ 9223372036854775807 := by
  simp [Lit.wf, IntKind.min, IntKind.max, IntKind.signed, IntKind.bits] at h
  exact h
theorem open_msg_r {H : Type} {enc : TypeId × Value → H} {w : World} {base : Nat} {spare : Nat → Bool} {held : Bool} {fuel : Nat} {cs : List Value} {x : DataW H × List MemPlace} (h : DataW.trod enc Tryd.prog w base spare held fuel 24 cs = some x) :
    ∃ n : RMsg, (n.ok ∧ n.rng) ∧ cs[0]? = some (.string n.frm) ∧ cs[1]? = some (.string n.to) ∧ cs[2]? = some (.string n.label) ∧ cs[3]? = some (.int .i64 n.sort) := by
  obtain ⟨xs, n, _, _, hl, hlen, hf⟩ := DataW.trod_struct Tryd.underlying24 h
  have hx5 : xs.length = 4 := hlen
  match xs, hx5 with
  | [y0, y1, y2, y3], _ =>
    have g0 : DataW.trod enc Tryd.prog w base spare held n 9 ((cs.drop 0).take (Tryd.prog.cellsOf 9)) = some y0 := hf 0 _ rfl
    have g1 : DataW.trod enc Tryd.prog w base spare held n 9 ((cs.drop 1).take (Tryd.prog.cellsOf 9)) = some y1 := hf 1 _ rfl
    have g2 : DataW.trod enc Tryd.prog w base spare held n 9 ((cs.drop 2).take (Tryd.prog.cellsOf 9)) = some y2 := hf 2 _ rfl
    have g3 : DataW.trod enc Tryd.prog w base spare held n 2 ((cs.drop 3).take (Tryd.prog.cellsOf 2)) = some y3 := hf 3 _ rfl
    rw [Tryd.ocI] at g3
    rw [Tryd.ocS] at g0 g1 g2
    obtain ⟨z0, e0, _, k0⟩ := DataW.trod_string Tryd.underlying9 g0
    obtain ⟨z1, e1, _, k1⟩ := DataW.trod_string Tryd.underlying9 g1
    obtain ⟨z2, e2, _, k2⟩ := DataW.trod_string Tryd.underlying9 g2
    obtain ⟨z3, e3, _, x3⟩ := DataW.trod_int Tryd.underlying2 g3
    exact ⟨⟨z0, z1, z2, z3⟩, ⟨⟨k0, k1, k2⟩, msg_wf x3⟩, m_one_of e0, m_one_of e1, m_one_of e2, m_one_of e3⟩

theorem open_msgs_r {H : Type} {enc : TypeId × Value → H} {w : World} {base : Nat} {spare : Nat → Bool} {held : Bool} {fuel : Nat} {a0 : Option Addr} {len0 cap0 : Nat} {x : DataW H × List MemPlace} (h : DataW.trod enc Tryd.prog w base spare held fuel 22 [.slice a0 len0 cap0] = some x) :
    ∃ ns : List RMsg, ns.length = len0 ∧ (∀ n ∈ ns, n.ok ∧ n.rng) ∧ ns.length ≤ maxLen ∧ (ns ≠ [] → ∃ b o, a0 = some ⟨b, o, none⟩ ∧ b < w.heap.size ∧ RMsgs w b o ns) := by
  rcases Go.Deep.open_slice Tryd.underlying22 h with ⟨h0, _⟩ | ⟨a, len, cap, m, n, D, Pl, hcs, hb, hl, hm, hmm, hx, hel⟩
  · simp at h0
    obtain ⟨rfl, rfl, rfl⟩ := h0
    exact ⟨[], rfl, by simp, Nat.zero_le _, fun h => absurd rfl h⟩
  · simp at hcs
    obtain ⟨rfl, rfl, rfl⟩ := hcs
    have hlm : len0 ≤ m := by rw [hmm]; split <;> omega
    have each : ∀ i, i < len0 → ∃ nd : RMsg, (nd.ok ∧ nd.rng) ∧ ∀ b o, a = ⟨b, o, none⟩ → RMsgAt w b (o + i * 4) nd := by
      intro i hi
      obtain ⟨cs', h1, h2⟩ := hel i (by omega)
      rw [Tryd.cRMsg] at h1
      obtain ⟨_, hlen, hcell⟩ := World.cells?_some h1
      obtain ⟨nd, hok, e0, e1, e2, e3⟩ := open_msg_r h2
      refine ⟨nd, hok, fun b o hab => ?_⟩
      subst hab
      have pl : ∀ j, ((⟨b, o, none⟩ : Addr).add (i * 4)).add j = ⟨b, o + i * 4 + j, none⟩ := fun j => by
        rw [Go.Deep.add_add]
        unfold Addr.add
        split <;> simp_all <;> omega
      refine ⟨?_, ?_, ?_, ?_⟩
      · have := hcell 0 (by omega); rw [pl, e0] at this; exact this
      · have := hcell 1 (by omega); rw [pl, e1] at this; exact this
      · have := hcell 2 (by omega); rw [pl, e2] at this; exact this
      · have := hcell 3 (by omega); rw [pl, e3] at this; exact this
    have : Inhabited RMsg := ⟨⟨ByteArray.empty, ByteArray.empty, ByteArray.empty, 0⟩⟩
    obtain ⟨q, hq⟩ := Go.Deep.choose_lt each
    refine ⟨(List.range len0).map q, by simp, ?_, by simp; omega, fun hne => ?_⟩
    · intro x hx
      obtain ⟨i, hi, rfl⟩ := List.mem_map.1 hx
      exact (hq i (List.mem_range.1 hi)).1
    · have hpos : 0 < len0 := by
        rcases Nat.eq_zero_or_pos len0 with h | h
        · subst h; simp at hne
        · exact h
      obtain ⟨b, o, s⟩ := a
      have hsp : ∀ i, i < len0 → ((Addr.add ⟨b, o, s⟩ (i * 4)).add 0).spot = none := by
        intro i hi
        obtain ⟨cs', h1, h2⟩ := hel i (by omega)
        rw [Tryd.cRMsg] at h1
        obtain ⟨_, hlen, hcell⟩ := World.cells?_some h1
        obtain ⟨nd, hok, e0, _⟩ := open_msg_r h2
        have h0 := hcell 0 (by omega)
        rw [e0] at h0
        exact World.cell?_spot h0
      have hspot : s = none := by simpa [Addr.add] using hsp 0 hpos
      subst hspot
      have hrow : RMsgs w b o ((List.range len0).map q) := RMsgs.of w b _ o (fun j hj => by
        simp only [List.getElem_map, List.getElem_range]
        exact (hq j (by simpa using hj)).2 b o rfl)
      refine ⟨b, o, rfl, ?_, hrow⟩
      have := (hq 0 hpos).2 b o rfl
      exact this.lt

theorem open_msg_arg {H : Type} {enc : TypeId × Value → H} {w : World} {base : Nat} {spare : Nat → Bool} {held : Bool} {fuel : Nat} {cs : Array Value} {x : DataW H × List MemPlace} (hsz : cs.size = Tryd.prog.cellsOf 24) (h : DataW.trod enc Tryd.prog w base spare held fuel 24 cs.toList = some x) :
    ∃ a : RMsg, Value.agg cs = a.val ∧ a.ok ∧ a.rng := by
  rw [Tryd.cRMsg] at hsz
  obtain ⟨a, ⟨h1, h2⟩, e0, e1, e2, e3⟩ := open_msg_r h
  obtain ⟨l⟩ := cs
  match l, hsz with
  | [x0, x1, x2, x3], _ =>
    simp at e0 e1 e2 e3
    subst e0 e1 e2 e3
    exact ⟨a, rfl, h1, h2⟩
end Go.Proofs.YtonafcifolddjaaDoor
