/- Nodes: what a Node holds, as a value and in memory; the small tests of a Node. -/
import Derived.Test.YtmjlblbhakppfaaGreatDoorRows
import Derived.Test.YtmjlblbhakppfaaGreatDoorQB00
import Derived.Test.YtmjlblbhakppfaaGreatDoorQB01
import Derived.Deep.RegionWith
import Derived.Deep.LoopGhost
namespace Go.Proofs.YtmjlblbhakppfaaGreatDoor
open Go.RowKit

structure Nd where
  op : Int
  name : ByteArray
  peer : ByteArray
  many : Int
  sort : Int

def Nd.val (n : Nd) : Value := .agg #[.int .i64 n.op, .string n.name, .string n.peer, .int .i64 n.many, .int .i64 n.sort]
/-- its texts are short enough to be read -/
def Nd.ok (n : Nd) : Prop := n.name.size ≤ maxLen ∧ n.peer.size ≤ maxLen

def wordB (t : ByteArray) : Bool := nameB t && (!(t.toList == [101, 110, 100]) && !(t.toList == [114, 101, 99]))
def sortB (n : Int) : Bool := decide (0 ≤ n) && decide (n ≤ 2)
def manyB (n : Int) : Bool := decide (1 ≤ n) && decide (n ≤ 4)
def recB (n : Nd) : Bool := n.op == 2 && n.peer.toList == [] && n.many == 0 && n.sort == 0 && wordB n.name
def varB (n : Nd) : Bool := n.op == 1 && n.peer.toList == [] && n.many == 0 && n.sort == 0
def endB (n : Nd) : Bool := n.op == 0 && n.name.toList == [] && n.peer.toList == [] && n.many == 0 && n.sort == 0
/-- in a plan both are named, in a part the Peer alone -/
def tnameB (n : Nd) : Bool := if n.op == 3 then wordB n.name && !(n.name.toList == n.peer.toList) else n.name.toList == []
def talkI (n : Nd) : Bool := (n.op == 3 || n.op == 5 || n.op == 6) && n.sort == 0 && manyB n.many && wordB n.peer && tnameB n
def talkS (part : Bool) (n : Nd) : Bool := wordB n.peer && manyB n.many && n.sort == 0 && (if part then n.name.toList == [] && (n.op == 5 || n.op == 6) else n.op == 3 && wordB n.name && !(n.name.toList == n.peer.toList))
def caseB (n : Nd) : Bool := n.op == 4 && n.peer.toList == [] && n.many == 0 && wordB n.name && sortB n.sort

theorem alloc1 (w : World) (o : Obj) : Below w.heap.size w (w.alloc o) := (Below.refl _ _).alloc (Nat.le_refl _) o

set_option maxHeartbeats 400000 in
theorem word_right (t : ByteArray) (w : World) (hs : t.size ≤ maxLen) :
    Calls Tryz.prog 137 #[.string t] w fun e w' => e = .returned (.bool (wordB t)) ∧ w' = w := by
  obtain ⟨b, hb⟩ : ∃ b, nameB t = b := ⟨_, rfl⟩
  have HB := hide hb
  have HS := hide hs
  clear hb hs
  cases b
  all_goals
    go_enter Tryz.func137, Tryz.ntmps137
    go_wp2_with (go_at_call 57; refine (impl_name t _ (unhide HS)).mono ?_; rintro e w' ⟨rfl, rfl⟩; rw [unhide HB])
    all_goals
      go_ret
      refine ⟨ret_bool ?_, rfl⟩
      rw [wordB, unhide HB]
      simp [*]

set_option maxHeartbeats 400000 in
theorem s_name (t : ByteArray) (w : World) (hs : t.size ≤ maxLen) :
    Calls Tryz.prog 118 #[.string t] w fun e w' => e = .returned (.bool (wordB t)) ∧ w' = w := by
  obtain ⟨b, hb⟩ : ∃ b, nameB t = b := ⟨_, rfl⟩
  have HB := hide hb
  have HS := hide hs
  clear hb hs
  cases b
  all_goals
    go_enter Tryz.func118, Tryz.ntmps118
    go_wp2_with (go_at_call 61; refine (spec_name t _ (unhide HS)).mono ?_; rintro e w' ⟨rfl, rfl⟩; rw [unhide HB])
    all_goals
      go_ret
      refine ⟨ret_bool ?_, rfl⟩
      rw [wordB, unhide HB]
      simp [*]

theorem s_is (n lo hi : Int) (w : World) :
    Calls Tryz.prog 140 #[.int .i64 n, .int .i64 lo, .int .i64 hi] w fun e w' => e = .returned (.bool (decide (lo ≤ n) && decide (n ≤ hi))) ∧ w' = w := by
  by_cases h : lo ≤ n
  all_goals
    go_enter Tryz.func140, Tryz.ntmps140
    go_wp2_with fail
    go_ret
    refine ⟨ret_bool ?_, rfl⟩
    simp [*]
    try omega

theorem s_sort (n : Int) (w : World) :
    Calls Tryz.prog 141 #[.int .i64 n] w fun e w' => e = .returned (.bool (sortB n)) ∧ w' = w := by
  go_enter Tryz.func141, Tryz.ntmps141
  go_wp2_with (go_at_call 140; refine (s_is _ _ _ _).mono ?_; rintro e w' ⟨rfl, rfl⟩)
  go_ret
  exact ⟨ret_bool rfl, rfl⟩

theorem sort_right (n : Int) (w : World) :
    Calls Tryz.prog 151 #[.int .i64 n] w fun e w' => e = .returned (.bool (sortB n)) ∧ w' = w := by
  by_cases h : 0 ≤ n
  all_goals
    go_enter Tryz.func151, Tryz.ntmps151
    go_wp2_with fail
    go_ret
    exact ⟨ret_bool (by simp [sortB, *]; try omega), rfl⟩

set_option maxHeartbeats 400000 in
theorem rec_right (n : Nd) (w : World) (ok : n.ok) :
    Calls Tryz.prog 111 #[n.val] w fun e w' => e = .returned (.bool (recB n)) ∧ Below w.heap.size w w' := by
  have hb : recB n = (n.op == 2 && n.peer.toList == [] && n.many == 0 && n.sort == 0 && wordB n.name) := rfl
  have HR := hide hb
  have HS := hide ok.1
  clear hb ok
  unfold Nd.val
  go_enter Tryz.func111, Tryz.ntmps111
  go_wp2_with (go_at_call 137; refine (word_right n.name _ (unhide HS)).mono ?_; rintro e w' ⟨rfl, rfl⟩)
  all_goals
    go_ret
    refine ⟨ret_bool ?_, alloc1 _ _⟩
    rw [unhide HR]
    simp [*]

set_option maxHeartbeats 400000 in
theorem tname_right (n : Nd) (w : World) (ok : n.ok) :
    Calls Tryz.prog 138 #[n.val] w fun e w' => e = .returned (.bool (tnameB n)) ∧ Below w.heap.size w w' := by
  have HR := hide (show tnameB n = (if n.op == 3 then wordB n.name && !(n.name.toList == n.peer.toList) else n.name.toList == []) from rfl)
  obtain ⟨b, hb⟩ : ∃ b, wordB n.name = b := ⟨_, rfl⟩
  have HB := hide hb
  have HS := hide ok.1
  obtain ⟨c, hc⟩ : ∃ c, (n.op == 3) = c := ⟨_, rfl⟩
  have HC := hide hc
  clear hb ok
  unfold Nd.val
  cases b
  all_goals cases c
  all_goals
    go_enter Tryz.func138, Tryz.ntmps138
    go_wp2_with (go_at_call 137; refine (word_right n.name _ (unhide HS)).mono ?_; rintro e w' ⟨rfl, rfl⟩; rw [unhide HB])
    all_goals
      go_ret
      refine ⟨ret_bool ?_, alloc1 _ _⟩
      rw [unhide HR, unhide HB, unhide HC]
      simp [*]

set_option maxHeartbeats 400000 in
theorem talk_right (n : Nd) (w : World) (ok : n.ok) (hop : n.op = 3 ∨ n.op = 5 ∨ n.op = 6) :
    Calls Tryz.prog 115 #[n.val] w fun e w' => e = .returned (.bool (talkI n)) ∧ Below w.heap.size w w' := by
  have HR : Hid (talkI n = (n.sort == 0 && manyB n.many && wordB n.peer && tnameB n)) := hide (by rcases hop with h | h | h <;> simp [talkI, h])
  obtain ⟨b, hb⟩ : ∃ b, tnameB n = b := ⟨_, rfl⟩
  obtain ⟨c, hc⟩ : ∃ c, wordB n.peer = c := ⟨_, rfl⟩
  have HB := hide hb
  have HB2 : Hid (tnameB ⟨n.op, n.name, n.peer, n.many, 0⟩ = b) := hide hb
  have HC := hide hc
  have HO := hide ok
  have HT := hide ok.2
  clear hb hc ok hop
  unfold Nd.val
  cases b
  all_goals cases c
  all_goals
    go_enter Tryz.func115, Tryz.ntmps115
    go_wp2_with (first | (go_at_call 138; refine (tname_right ⟨n.op, n.name, n.peer, n.many, 0⟩ _ (unhide HO)).mono ?_; rintro e w' ⟨rfl, hb'⟩; rw [HB2.out]; have HBE := hide hb'; clear hb') | (go_at_call_of 137 n.peer; refine (word_right n.peer _ (unhide HT)).mono ?_; rintro e w' ⟨rfl, rfl⟩; rw [unhide HC]))
    all_goals
      go_ret
      refine ⟨ret_bool ?_, ?_⟩
      · rw [unhide HR, unhide HB, unhide HC]
        simp [manyB, *]
        try omega
      · first | exact (alloc1 _ _).trans (HBE.out.mono (alloc1 _ _).size) | exact alloc1 _ _

set_option maxHeartbeats 400000 in
theorem case_right (n : Nd) (w : World) (ok : n.ok) :
    Calls Tryz.prog 139 #[n.val] w fun e w' => e = .returned (.bool (caseB n)) ∧ Below w.heap.size w w' := by
  have HR := hide (show caseB n = (n.op == 4 && n.peer.toList == [] && n.many == 0 && wordB n.name && sortB n.sort) from rfl)
  obtain ⟨b, hb⟩ : ∃ b, wordB n.name = b := ⟨_, rfl⟩
  have HB := hide hb
  have HS := hide ok.1
  clear hb ok
  unfold Nd.val
  cases b
  all_goals
    go_enter Tryz.func139, Tryz.ntmps139
    go_wp2_with (first | (go_at_call 137; refine (word_right n.name _ (unhide HS)).mono ?_; rintro e w' ⟨rfl, rfl⟩; rw [unhide HB]) | (go_at_call 151; refine (sort_right n.sort _).mono ?_; rintro e w' ⟨rfl, rfl⟩))
    all_goals
      go_ret
      refine ⟨ret_bool ?_, alloc1 _ _⟩
      rw [unhide HR, unhide HB]
      simp [*]

set_option maxHeartbeats 800000 in
theorem s_talk (part : Bool) (bx : Nat) (n : Nd) (w : World) (ok : n.ok) (hx : w.cell? ⟨bx, 1, none⟩ = some (.bool part)) :
    Calls Tryz.prog 119 #[.pointer (some ⟨bx, 0, none⟩), n.val] w fun e w' => e = .returned (.bool (talkS part n)) ∧ Below w.heap.size w w' := by
  have HR := hide (show talkS part n = (wordB n.peer && manyB n.many && n.sort == 0 && (if part then n.name.toList == [] && (n.op == 5 || n.op == 6) else n.op == 3 && wordB n.name && !(n.name.toList == n.peer.toList))) from rfl)
  obtain ⟨b, hb⟩ : ∃ b, wordB n.name = b := ⟨_, rfl⟩
  obtain ⟨c, hc⟩ : ∃ c, wordB n.peer = c := ⟨_, rfl⟩
  obtain ⟨d, hd⟩ : ∃ d, (decide (1 ≤ n.many) && decide (n.many ≤ 4)) = d := ⟨_, rfl⟩
  have HB := hide hb
  have HC := hide hc
  have HD := hide hd
  have HM := hide (show manyB n.many = d from hd)
  have HS := hide ok.1
  have HT := hide ok.2
  have hlt : bx < w.heap.size := World.block_lt_of_cell? w _ hx
  clear hb hc hd ok
  unfold Nd.val
  cases b
  all_goals cases c
  all_goals cases d
  all_goals cases part
  all_goals
    go_enter Tryz.func119, Tryz.ntmps119
    go_wp2_with (first | (go_at_call_of 118 n.name; refine (s_name n.name _ (unhide HS)).mono ?_; rintro e w' ⟨rfl, rfl⟩; rw [unhide HB]) | (go_at_call_of 118 n.peer; refine (s_name n.peer _ (unhide HT)).mono ?_; rintro e w' ⟨rfl, rfl⟩; rw [unhide HC]) | (go_at_call 140; refine (s_is _ _ _ _).mono ?_; rintro e w' ⟨rfl, rfl⟩; rw [unhide HD]))
    all_goals
      go_ret
      refine ⟨ret_bool ?_, alloc1 _ _⟩
      rw [unhide HR, unhide HB, unhide HC, unhide HM]
      simp [*]
      try simp_all
end Go.Proofs.YtmjlblbhakppfaaGreatDoor
/- Rows of Nodes and places, as they lie in memory; what is asked of a place. -/
namespace Go.Proofs.YtmjlblbhakppfaaGreatDoor
open Go.RowKit

/-- the five cells of a Node -/
def NodeAt (w : World) (b o : Nat) (n : Nd) : Prop :=
  w.cell? ⟨b, o, none⟩ = some (.int .i64 n.op) ∧ w.cell? ⟨b, o + 1, none⟩ = some (.string n.name) ∧ w.cell? ⟨b, o + 2, none⟩ = some (.string n.peer) ∧
  w.cell? ⟨b, o + 3, none⟩ = some (.int .i64 n.many) ∧ w.cell? ⟨b, o + 4, none⟩ = some (.int .i64 n.sort)
/-- a row of Nodes -/
def RowAt (w : World) (b : Nat) : Nat → List Nd → Prop
  | _, [] => True
  | o, n :: l => NodeAt w b o n ∧ RowAt w b (o + 5) l

theorem NodeAt.carry {w w' : World} {b o : Nat} {n : Nd} (h : NodeAt w b o n) {B : Nat} (hB : b < B) (hb : Below B w w') : NodeAt w' b o n := by
  obtain ⟨h0, h1, h2, h3, h4⟩ := h
  exact ⟨(hb.cell (p := ⟨b, _, none⟩) hB).trans h0, (hb.cell (p := ⟨b, _, none⟩) hB).trans h1, (hb.cell (p := ⟨b, _, none⟩) hB).trans h2, (hb.cell (p := ⟨b, _, none⟩) hB).trans h3, (hb.cell (p := ⟨b, _, none⟩) hB).trans h4⟩
theorem NodeAt.lt {w : World} {b o : Nat} {n : Nd} (h : NodeAt w b o n) : b < w.heap.size := World.block_lt_of_cell? w _ h.1
theorem RowAt.carry {w w' : World} {b B : Nat} (hB : b < B) (hb : Below B w w') : ∀ {l : List Nd} {o : Nat}, RowAt w b o l → RowAt w' b o l
  | [], _, _ => trivial
  | _ :: _, _, h => ⟨h.1.carry hB hb, RowAt.carry hB hb h.2⟩
theorem RowAt.lt {w : World} {b o : Nat} {n : Nd} {l : List Nd} (h : RowAt w b o (n :: l)) : b < w.heap.size := h.1.lt
theorem RowAt.get {w : World} {b : Nat} : ∀ {l : List Nd} {o : Nat}, RowAt w b o l → ∀ i (h : i < l.length), NodeAt w b (o + i * 5) l[i]
  | _ :: _, _, h, 0, _ => by simpa using h.1
  | _ :: l, o, h, i + 1, hi => by
    have := h.2.get i (by simpa using hi)
    rw [show o + 5 + i * 5 = o + (i + 1) * 5 from by omega] at this
    simpa using this
theorem RowAt.drop {w : World} {b : Nat} : ∀ {l : List Nd} {o : Nat}, RowAt w b o l → ∀ i, RowAt w b (o + i * 5) (l.drop i)
  | _, _, h, 0 => by simpa using h
  | [], _, _, i + 1 => by simp [RowAt]
  | _ :: l, o, h, i + 1 => by
    have := h.2.drop i
    rw [show o + 5 + i * 5 = o + (i + 1) * 5 from by omega] at this
    simpa using this

/-- a slice's value holds a row of Nodes, in a block below B -/
def SlAt (w : World) (B : Nat) (v : Value) (ns : List Nd) : Prop :=
  ∃ ao cap, v = .slice ao ns.length cap ∧ ns.length ≤ cap ∧ (cap ≤ 9223372036854775807 ∧ ns.length ≤ 4294967296) ∧ (ns ≠ [] → ∃ b o, ao = some ⟨b, o, none⟩ ∧ b < B ∧ RowAt w b o ns)
theorem SlAt.carry {w w' : World} {B : Nat} {v : Value} {ns : List Nd} (h : SlAt w B v ns) (hb : Below B w w') : SlAt w' B v ns := by
  obtain ⟨ao, cap, h1, h2, h3, h4⟩ := h
  refine ⟨ao, cap, h1, h2, h3, fun hne => ?_⟩
  obtain ⟨b, o, e, hlt, hr⟩ := h4 hne
  exact ⟨b, o, e, hlt, hr.carry hlt hb⟩

/-- a place: what it stands in, the inner ones first -/
def PlaceAt (w : World) : Value → List Nd → Prop
  | p, [] => p = .pointer none
  | p, n :: st => ∃ b q, p = .pointer (some ⟨b, 0, none⟩) ∧ NodeAt w b 0 n ∧ w.cell? ⟨b, 5, none⟩ = some (.int .i64 (st.length + 1 : Nat)) ∧ w.cell? ⟨b, 6, none⟩ = some q ∧ PlaceAt w q st
theorem PlaceAt.carry {w w' : World} (hb : Below w.heap.size w w') : ∀ {st : List Nd} {p : Value}, PlaceAt w p st → PlaceAt w' p st
  | [], _, h => h
  | _ :: _, _, ⟨b, q, e, hn, h5, h6, h⟩ => ⟨b, q, e, hn.carry hn.lt hb, (hb.cell (p := ⟨b, _, none⟩) hn.lt).trans h5, (hb.cell (p := ⟨b, _, none⟩) hn.lt).trans h6, PlaceAt.carry hb h⟩
theorem PlaceAt.shape {w : World} {st : List Nd} {p : Value} (h : PlaceAt w p st) : ∃ u, p = .pointer u := by
  cases st with
  | nil => exact ⟨_, h⟩
  | cons => obtain ⟨b, q, e, _⟩ := h; exact ⟨_, e⟩

def fullB (st : List Nd) : Bool := st.length == 10
def withinB (st : List Nd) (name : ByteArray) : Bool := st.any fun n => n.op == 2 && n.name.toList == name.toList
def backB (said : Bool) : List Nd → ByteArray → Bool
  | [], _ => false
  | n :: st, name => if n.op == 2 then (if n.name.toList == name.toList then said else backB said st name) else backB true st name

theorem p_full (st : List Nd) (p : Value) (w : World) (hp : PlaceAt w p st) :
    Calls Tryz.prog 113 #[p] w fun e w' => e = .returned (.bool (fullB st)) ∧ w' = w := by
  cases st with
  | nil =>
    cases hp
    go_enter Tryz.func113, Tryz.ntmps113
    go_wp2_with fail
    go_ret
    exact ⟨ret_bool rfl, rfl⟩
  | cons n st =>
    obtain ⟨b, q, rfl, hn, h5, h6, h⟩ := hp
    clear hn h6 h
    go_enter Tryz.func113, Tryz.ntmps113
    go_wp2_with fail
    go_ret
    refine ⟨ret_bool ?_, rfl⟩
    rw [fullB, List.length_cons]
    cases h : ((st.length : Int) + 1 == 10)
    · rw [beq_eq_false_iff_ne] at h ⊢; omega
    · rw [beq_iff_eq] at h ⊢; omega

theorem p_inner (st : List Nd) (p : Value) (n : Nd) (w : World) (hp : PlaceAt w p st) (hl : st.length < 1000) :
    Calls Tryz.prog 114 #[p, n.val] w fun e w' => ∃ q, e = .returned q ∧ PlaceAt w' q (n :: st) ∧ Below w.heap.size w w' := by
  have HP := hide hp
  have HL := hide hl
  cases st with
  | nil =>
    cases hp
    unfold Nd.val
    go_enter Tryz.func114, Tryz.ntmps114
    go_wp2_with fail
    go_ret
    refine ⟨_, rfl, ⟨_, _, rfl, ⟨?_, ?_, ?_, ?_, ?_⟩, ?_, ?_, rfl⟩, (alloc1 _ _).trans (((alloc1 _ _)).mono (by simp))⟩
    all_goals simp
  | cons n' st =>
    obtain ⟨b, q, rfl, hn, h5, h6, h⟩ := hp
    have hlt := hn.lt
    clear hn h6 h
    unfold Nd.val
    go_enter Tryz.func114, Tryz.ntmps114
    have ha : wrap64 ((st.length : Int) + 1 + 1) = (st.length : Int) + 1 + 1 := by
      simp only [List.length_cons] at hl
      simp only [wrap64]
      omega
    go_wp2_with fail
    go_region
    go_wp2_with fail
    go_ret
    refine ⟨_, rfl, ⟨w.heap.size + 1, .pointer (some ⟨b, 0, none⟩), rfl, ⟨?_, ?_, ?_, ?_, ?_⟩, ?_, ?_, ?_⟩, ((alloc1 _ _).trans (((alloc1 _ _)).mono (by simp))).drew⟩
    case refine_8 => exact PlaceAt.carry ((alloc1 _ _).trans (((alloc1 _ _)).mono (by simp))).drew HP.out
    all_goals simp
    all_goals omega

set_option maxHeartbeats 400000 in
theorem p_within (st : List Nd) (p : Value) (name : ByteArray) (w : World) (hp : PlaceAt w p st) :
    Calls Tryz.prog 112 #[p, .string name] w fun e w' => e = .returned (.bool (withinB st name)) ∧ w' = w := by
  obtain ⟨u, rfl⟩ := hp.shape
  have HP := hide hp
  clear hp
  go_enter Tryz.func112, Tryz.ntmps112
  go_wp2_with fail
  go_loopg [0] st.length (fun k p wr => wr = w ∧ ∃ st', st'.length = k ∧ PlaceAt w p st' ∧ withinB st' name = withinB st name)
  case atStart => exact ⟨rfl, st, rfl, HP.out, rfl⟩
  case round =>
    obtain ⟨rfl, st', hk, hp, he⟩ := hrel
    have HK := hide hk
    have HE := hide he
    clear hk he
    cases st' with
    | nil =>
      cases hp
      go_wp2_with fail
      go_ret
      exact ⟨ret_bool HE.out.symm, rfl⟩
    | cons n st' =>
      obtain ⟨b, q, rfl, ⟨h0, h1, h2, h3, h4⟩, h5, h6, h⟩ := hp
      obtain ⟨u', rfl⟩ := h.shape
      have HQ := hide h
      clear h h2 h3 h4 h5
      go_wp2_with fail
      all_goals
        first
          | (go_ret
             refine ⟨ret_bool ?_, rfl⟩
             rw [← HE.out]
             simp_all [withinB])
          | (go_roundg st'.length
             case measure => have := HK.out; simp at this; omega
             case rel => exact ⟨rfl, st', rfl, HQ.out, by rw [← HE.out]; simp_all [withinB]⟩)

set_option maxHeartbeats 400000 in
theorem p_back (st : List Nd) (p : Value) (name : ByteArray) (w : World) (hp : PlaceAt w p st) :
    Calls Tryz.prog 110 #[p, .string name] w fun e w' => e = .returned (.bool (backB false st name)) ∧ w' = w := by
  obtain ⟨u, rfl⟩ := hp.shape
  have HP := hide hp
  clear hp
  go_enter Tryz.func110, Tryz.ntmps110
  go_wp2_with fail
  go_loopg [0, 5] st.length (fun k p said wr => wr = w ∧ ∃ st' b, st'.length = k ∧ said = .bool b ∧ PlaceAt w p st' ∧ backB b st' name = backB false st name)
  case atStart => exact ⟨rfl, st, false, rfl, rfl, HP.out, rfl⟩
  case round =>
    obtain ⟨rfl, st', b0, hk, rfl, hp, he⟩ := hrel
    have HK := hide hk
    have HE := hide he
    clear hk he
    cases st' with
    | nil =>
      cases hp
      go_wp2_with fail
      go_ret
      exact ⟨ret_bool HE.out.symm, rfl⟩
    | cons n st' =>
      obtain ⟨b, q, rfl, ⟨h0, h1, h2, h3, h4⟩, h5, h6, h⟩ := hp
      obtain ⟨u', rfl⟩ := h.shape
      have HQ := hide h
      clear h h2 h3 h4 h5
      go_wp2_with fail
      all_goals
        first
          | (go_ret
             refine ⟨ret_bool ?_, rfl⟩
             rw [← HE.out]
             simp_all [backB])
          | (go_roundg st'.length
             case measure => have := HK.out; simp at this; omega
             case rel => exact ⟨rfl, st', _, rfl, rfl, HQ.out, by rw [← HE.out]; simp_all [backB]⟩)
end Go.Proofs.YtmjlblbhakppfaaGreatDoor
