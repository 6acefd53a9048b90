/- Nodes: what a Node holds, as a value and in memory; the small tests of a Node. -/
import Derived.Test.YtonafcifolddjaaGreatDoorRows
import Derived.Test.YtonafcifolddjaaGreatDoorQB00
import Derived.Test.YtonafcifolddjaaGreatDoorQB03
import Derived.Deep.RegionWith
import Derived.Deep.LoopGhost
namespace Go.Proofs.YtonafcifolddjaaGreatDoor
open Go.RowKit

structure Nd where
  op : Int
  name : ByteArray
  peer : ByteArray
  many : Int
  sort : Int

def Nd.val (n : Nd) : Value := .agg #[.int .i64 n.op, .string n.name, .string n.peer, .int .i64 n.many, .int .i64 n.sort]
/-- its texts are short enough to be read -/
def Nd.ok (n : Nd) : Prop := n.name.size ≤ maxLen ∧ n.peer.size ≤ maxLen

def wordB (t : ByteArray) : Bool := nameB t && (!(t.toList == [101, 110, 100]) && !(t.toList == [114, 101, 99]))
def sortB (n : Int) : Bool := decide (0 ≤ n) && decide (n ≤ 2)
def manyB (n : Int) : Bool := decide (1 ≤ n) && decide (n ≤ 4)
def recB (n : Nd) : Bool := n.op == 2 && n.peer.toList == [] && n.many == 0 && n.sort == 0 && wordB n.name
def varB (n : Nd) : Bool := n.op == 1 && n.peer.toList == [] && n.many == 0 && n.sort == 0
def endB (n : Nd) : Bool := n.op == 0 && n.name.toList == [] && n.peer.toList == [] && n.many == 0 && n.sort == 0
/-- in a plan both are named, in a part the Peer alone -/
def tnameB (n : Nd) : Bool := if n.op == 3 then wordB n.name && !(n.name.toList == n.peer.toList) else n.name.toList == []
def talkI (n : Nd) : Bool := (n.op == 3 || n.op == 5 || n.op == 6) && n.sort == 0 && manyB n.many && wordB n.peer && tnameB n
def talkS (part : Bool) (n : Nd) : Bool := wordB n.peer && manyB n.many && n.sort == 0 && (if part then n.name.toList == [] && (n.op == 5 || n.op == 6) else n.op == 3 && wordB n.name && !(n.name.toList == n.peer.toList))
def caseB (n : Nd) : Bool := n.op == 4 && n.peer.toList == [] && n.many == 0 && wordB n.name && sortB n.sort

theorem alloc1 (w : World) (o : Obj) : Below w.heap.size w (w.alloc o) := (Below.refl _ _).alloc (Nat.le_refl _) o

theorem s_is (n lo hi : Int) (w : World) :
    Calls Tryz.prog 57 #[.int .i64 n, .int .i64 lo, .int .i64 hi] w fun e w' => e = .returned (.bool (decide (lo ≤ n) && decide (n ≤ hi))) ∧ w' = w := by
  by_cases h : lo ≤ n
  all_goals
    go_enter Tryz.func57, Tryz.ntmps57
    go_wp2_with fail
    go_ret
    refine ⟨ret_bool ?_, rfl⟩
    simp [*]
    try omega

theorem s_sort (n : Int) (w : World) :
    Calls Tryz.prog 72 #[.int .i64 n] w fun e w' => e = .returned (.bool (sortB n)) ∧ w' = w := by
  go_enter Tryz.func72, Tryz.ntmps72
  go_wp2_with (go_at_call 57; refine (s_is _ _ _ _).mono ?_; rintro e w' ⟨rfl, rfl⟩)
  go_ret
  exact ⟨ret_bool rfl, rfl⟩

theorem sort_right (n : Int) (w : World) :
    Calls Tryz.prog 70 #[.int .i64 n] w fun e w' => e = .returned (.bool (sortB n)) ∧ w' = w := by
  by_cases h : 0 ≤ n
  all_goals
    go_enter Tryz.func70, Tryz.ntmps70
    go_wp2_with fail
    go_ret
    exact ⟨ret_bool (by simp [sortB, *]; try omega), rfl⟩

end Go.Proofs.YtonafcifolddjaaGreatDoor
/- Rows of Nodes and places, as they lie in memory; what is asked of a place. -/
namespace Go.Proofs.YtonafcifolddjaaGreatDoor
open Go.RowKit

/-- the five cells of a Node -/
def NodeAt (w : World) (b o : Nat) (n : Nd) : Prop :=
  w.cell? ⟨b, o, none⟩ = some (.int .i64 n.op) ∧ w.cell? ⟨b, o + 1, none⟩ = some (.string n.name) ∧ w.cell? ⟨b, o + 2, none⟩ = some (.string n.peer) ∧
  w.cell? ⟨b, o + 3, none⟩ = some (.int .i64 n.many) ∧ w.cell? ⟨b, o + 4, none⟩ = some (.int .i64 n.sort)
/-- a row of Nodes -/
def RowAt (w : World) (b : Nat) : Nat → List Nd → Prop
  | _, [] => True
  | o, n :: l => NodeAt w b o n ∧ RowAt w b (o + 5) l

theorem NodeAt.carry {w w' : World} {b o : Nat} {n : Nd} (h : NodeAt w b o n) {B : Nat} (hB : b < B) (hb : Below B w w') : NodeAt w' b o n := by
  obtain ⟨h0, h1, h2, h3, h4⟩ := h
  exact ⟨(hb.cell (p := ⟨b, _, none⟩) hB).trans h0, (hb.cell (p := ⟨b, _, none⟩) hB).trans h1, (hb.cell (p := ⟨b, _, none⟩) hB).trans h2, (hb.cell (p := ⟨b, _, none⟩) hB).trans h3, (hb.cell (p := ⟨b, _, none⟩) hB).trans h4⟩
theorem NodeAt.lt {w : World} {b o : Nat} {n : Nd} (h : NodeAt w b o n) : b < w.heap.size := World.block_lt_of_cell? w _ h.1
theorem RowAt.carry {w w' : World} {b B : Nat} (hB : b < B) (hb : Below B w w') : ∀ {l : List Nd} {o : Nat}, RowAt w b o l → RowAt w' b o l
  | [], _, _ => trivial
  | _ :: _, _, h => ⟨h.1.carry hB hb, RowAt.carry hB hb h.2⟩
theorem RowAt.lt {w : World} {b o : Nat} {n : Nd} {l : List Nd} (h : RowAt w b o (n :: l)) : b < w.heap.size := h.1.lt
theorem RowAt.get {w : World} {b : Nat} : ∀ {l : List Nd} {o : Nat}, RowAt w b o l → ∀ i (h : i < l.length), NodeAt w b (o + i * 5) l[i]
  | _ :: _, _, h, 0, _ => by simpa using h.1
  | _ :: l, o, h, i + 1, hi => by
    have := h.2.get i (by simpa using hi)
    rw [show o + 5 + i * 5 = o + (i + 1) * 5 from by omega] at this
    simpa using this
theorem RowAt.drop {w : World} {b : Nat} : ∀ {l : List Nd} {o : Nat}, RowAt w b o l → ∀ i, RowAt w b (o + i * 5) (l.drop i)
  | _, _, h, 0 => by simpa using h
  | [], _, _, i + 1 => by simp [RowAt]
  | _ :: l, o, h, i + 1 => by
    have := h.2.drop i
    rw [show o + 5 + i * 5 = o + (i + 1) * 5 from by omega] at this
    simpa using this

/-- a slice's value holds a row of Nodes, in a block below B -/
def SlAt (w : World) (B : Nat) (v : Value) (ns : List Nd) : Prop :=
  ∃ ao cap, v = .slice ao ns.length cap ∧ ns.length ≤ cap ∧ (cap ≤ 9223372036854775807 ∧ ns.length ≤ 4294967296) ∧ (ns ≠ [] → ∃ b o, ao = some ⟨b, o, none⟩ ∧ b < B ∧ RowAt w b o ns)
theorem SlAt.carry {w w' : World} {B : Nat} {v : Value} {ns : List Nd} (h : SlAt w B v ns) (hb : Below B w w') : SlAt w' B v ns := by
  obtain ⟨ao, cap, h1, h2, h3, h4⟩ := h
  refine ⟨ao, cap, h1, h2, h3, fun hne => ?_⟩
  obtain ⟨b, o, e, hlt, hr⟩ := h4 hne
  exact ⟨b, o, e, hlt, hr.carry hlt hb⟩

/-- a place: what it stands in, the inner ones first -/
def PlaceAt (w : World) : Value → List Nd → Prop
  | p, [] => p = .pointer none
  | p, n :: st => ∃ b q, p = .pointer (some ⟨b, 0, none⟩) ∧ NodeAt w b 0 n ∧ w.cell? ⟨b, 5, none⟩ = some (.int .i64 (st.length + 1 : Nat)) ∧ w.cell? ⟨b, 6, none⟩ = some q ∧ PlaceAt w q st
theorem PlaceAt.carry {w w' : World} (hb : Below w.heap.size w w') : ∀ {st : List Nd} {p : Value}, PlaceAt w p st → PlaceAt w' p st
  | [], _, h => h
  | _ :: _, _, ⟨b, q, e, hn, h5, h6, h⟩ => ⟨b, q, e, hn.carry hn.lt hb, (hb.cell (p := ⟨b, _, none⟩) hn.lt).trans h5, (hb.cell (p := ⟨b, _, none⟩) hn.lt).trans h6, PlaceAt.carry hb h⟩
theorem PlaceAt.shape {w : World} {st : List Nd} {p : Value} (h : PlaceAt w p st) : ∃ u, p = .pointer u := by
  cases st with
  | nil => exact ⟨_, h⟩
  | cons => obtain ⟨b, q, e, _⟩ := h; exact ⟨_, e⟩

def fullB (st : List Nd) : Bool := st.length == 10
def withinB (st : List Nd) (name : ByteArray) : Bool := st.any fun n => n.op == 2 && n.name.toList == name.toList
def backB (said : Bool) : List Nd → ByteArray → Bool
  | [], _ => false
  | n :: st, name => if n.op == 2 then (if n.name.toList == name.toList then said else backB said st name) else backB true st name

end Go.Proofs.YtonafcifolddjaaGreatDoor
/- Rows of texts in memory, and whether a text is one of them. -/
namespace Go.Proofs.YtonafcifolddjaaGreatDoor
open Go.RowKit

def hasB (ls : List ByteArray) (t : ByteArray) : Bool := ls.any fun s => s.toList == t.toList

def TextsAt (w : World) (v : Value) (ls : List ByteArray) : Prop :=
  ∃ ao cap, v = .slice ao ls.length cap ∧ ls.length ≤ cap ∧ ls.length ≤ 4294967296 ∧ (ls ≠ [] → ∃ b o, ao = some ⟨b, o, none⟩ ∧ ∀ i (h : i < ls.length), w.cell? ⟨b, o + i, none⟩ = some (.string ls[i]))
theorem TextsAt.carry {w w' : World} {v : Value} {ls : List ByteArray} (h : TextsAt w v ls) (hb : Below w.heap.size w w') : TextsAt w' v ls := by
  obtain ⟨ao, cap, h1, h2, h3, h4⟩ := h
  refine ⟨ao, cap, h1, h2, h3, fun hne => ?_⟩
  obtain ⟨b, o, e, hr⟩ := h4 hne
  refine ⟨b, o, e, fun i hi => ?_⟩
  exact (hb.cell (p := ⟨b, _, none⟩) (World.block_lt_of_cell? w _ (hr i hi))).trans (hr i hi)

theorem has_take {ls : List ByteArray} {t : ByteArray} {k : Nat} (hk : k < ls.length) (h : hasB (ls.take k) t = false) (he : (ls[k].toList == t.toList) = false) : hasB (ls.take (k + 1)) t = false := by
  rw [hasB, List.take_succ_eq_append_getElem hk, List.any_append]
  have : (ls.take k).any (fun s => s.toList == t.toList) = false := h
  simp [this, he] at *
theorem has_hit {ls : List ByteArray} {t : ByteArray} {k : Nat} (hk : k < ls.length) (he : (ls[k].toList == t.toList) = true) : hasB ls t = true := by
  rw [hasB, List.any_eq_true]
  exact ⟨ls[k], List.getElem_mem hk, he⟩

/-- what the call itself has gathered is a row of texts -/
theorem texts_own {w : World} {base e : Nat} {v : Value} {ls : List ByteArray} (h : w.ownsRow base e 1 v ls.length (ls.map Value.string)) (hl : ls.length ≤ 4294967296) : TextsAt w v ls := by
  obtain ⟨_, hv⟩ := h
  rcases hv with ⟨rfl, h0⟩ | ⟨g, cap, cur, rfl, hg, hh, hn, hcap, hsz, htake⟩
  · have : ls = [] := List.length_eq_zero_iff.1 h0
    subst this
    exact ⟨none, 0, rfl, Nat.le_refl _, hl, fun h => absurd rfl h⟩
  · refine ⟨_, cap, rfl, hn, hl, fun _ => ⟨g, 0, rfl, fun i hi => ?_⟩⟩
    have h1 : cur.toList[i]? = some (.string ls[i]) := by
      have h2 : (cur.toList.take (ls.length * 1))[i]? = (ls.map Value.string)[i]? := by rw [htake]
      rw [List.getElem?_take, if_pos (by omega)] at h2
      rw [h2]
      simp [hi]
    have h2 : cur[i]? = some (.string ls[i]) := by rw [← h1]; simp
    simp only [World.cell?, hh]
    simpa using h2
theorem own_below {w w' : World} {base e size : Nat} {v : Value} {n : Nat} {xs : List Value} (h : w.ownsRow base e size v n xs) (hb : Below w.heap.size w w') : w'.ownsRow base e size v n xs := by
  obtain ⟨h1, hv⟩ := h
  refine ⟨h1, ?_⟩
  rcases hv with hv | ⟨g, cap, cur, rfl, hg, hh, r⟩
  · exact .inl hv
  · have hlt : g < w.heap.size := by
      rcases Nat.lt_or_ge g w.heap.size with h | h
      · exact h
      · rw [Array.getElem?_eq_none h] at hh; exact absurd hh (by simp)
    exact .inr ⟨g, cap, cur, rfl, hg, by rw [hb.block g hlt]; exact hh, r⟩
theorem own_row {w : World} {base e size : Nat} {v : Value} {n : Nat} {xs : List Value} (h : w.ownsRow base e size v n xs) : ∀ k, v.ownBlock = some k → base ≤ k := by
  obtain ⟨_, hv⟩ := h
  rcases hv with ⟨rfl, _⟩ | ⟨g, cap, cur, rfl, hg, r⟩
  · intro k hk; cases hk
  · intro k hk; cases hk; exact hg

end Go.Proofs.YtonafcifolddjaaGreatDoor
