import Derived.Test.YtaaeledleldllaaGreatRows
import Derived.Test.YtaaeledleldllaaGreatQB00
import Derived.Test.YtaaeledleldllaaGreatQB01
import Derived.Deep.RegionWith
import Derived.Deep.LoopGhost
namespace Go.Proofs.YtaaeledleldllaaGreat
open Go.RowKit

structure Nd where
  op : Int
  name : ByteArray
  peer : ByteArray
  many : Int
  sort : Int

def Nd.val (n : Nd) : Value := .agg #[.int .i64 n.op, .string n.name, .string n.peer, .int .i64 n.many, .int .i64 n.sort]
def Nd.ok (n : Nd) : Prop := n.name.size ≤ maxLen ∧ n.peer.size ≤ maxLen

def wordB (t : ByteArray) : Bool := nameB t && (!(t.toList == [101, 110, 100]) && !(t.toList == [114, 101, 99]))
def sortB (n : Int) : Bool := decide (0 ≤ n) && decide (n ≤ 2)
def manyB (n : Int) : Bool := decide (1 ≤ n) && decide (n ≤ 4)
def recB (n : Nd) : Bool := n.op == 2 && n.peer.toList == [] && n.many == 0 && n.sort == 0 && wordB n.name
def varB (n : Nd) : Bool := n.op == 1 && n.peer.toList == [] && n.many == 0 && n.sort == 0
def endB (n : Nd) : Bool := n.op == 0 && n.name.toList == [] && n.peer.toList == [] && n.many == 0 && n.sort == 0
def tnameB (n : Nd) : Bool := if n.op == 3 then wordB n.name && !(n.name.toList == n.peer.toList) else n.name.toList == []
def talkI (n : Nd) : Bool := (n.op == 3 || n.op == 5 || n.op == 6) && n.sort == 0 && manyB n.many && wordB n.peer && tnameB n
def talkS (part : Bool) (n : Nd) : Bool := wordB n.peer && manyB n.many && n.sort == 0 && (if part then n.name.toList == [] && (n.op == 5 || n.op == 6) else n.op == 3 && wordB n.name && !(n.name.toList == n.peer.toList))
def caseB (n : Nd) : Bool := n.op == 4 && n.peer.toList == [] && n.many == 0 && wordB n.name && sortB n.sort

theorem alloc1 (w : World) (o : Obj) : Below w.heap.size w (w.alloc o) := (Below.refl _ _).alloc (Nat.le_refl _) o

set_option maxHeartbeats 400000 in
theorem word_right (t : ByteArray) (w : World) (hs : t.size ≤ maxLen) :
    Calls Tryz.prog 191 #[.string t] w fun e w' => e = .returned (.bool (wordB t)) ∧ w' = w := by
  obtain ⟨b, hb⟩ : ∃ b, nameB t = b := ⟨_, rfl⟩
  have HB := hide hb
  have HS := hide hs
  clear hb hs
  cases b
  all_goals
    go_enter Tryz.func191, Tryz.ntmps191
    go_wp2_with (go_at_call 75; refine (impl_name t _ (unhide HS)).mono ?_; rintro e w' ⟨rfl, rfl⟩; rw [unhide HB])
    all_goals
      go_ret
      refine ⟨ret_bool ?_, rfl⟩
      rw [wordB, unhide HB]
      simp [*]

set_option maxHeartbeats 400000 in
theorem s_name (t : ByteArray) (w : World) (hs : t.size ≤ maxLen) :
    Calls Tryz.prog 154 #[.string t] w fun e w' => e = .returned (.bool (wordB t)) ∧ w' = w := by
  obtain ⟨b, hb⟩ : ∃ b, nameB t = b := ⟨_, rfl⟩
  have HB := hide hb
  have HS := hide hs
  clear hb hs
  cases b
  all_goals
    go_enter Tryz.func154, Tryz.ntmps154
    go_wp2_with (go_at_call 104; refine (spec_name t _ (unhide HS)).mono ?_; rintro e w' ⟨rfl, rfl⟩; rw [unhide HB])
    all_goals
      go_ret
      refine ⟨ret_bool ?_, rfl⟩
      rw [wordB, unhide HB]
      simp [*]

theorem s_is (n lo hi : Int) (w : World) :
    Calls Tryz.prog 82 #[.int .i64 n, .int .i64 lo, .int .i64 hi] w fun e w' => e = .returned (.bool (decide (lo ≤ n) && decide (n ≤ hi))) ∧ w' = w := by
  by_cases h : lo ≤ n
  all_goals
    go_enter Tryz.func82, Tryz.ntmps82
    go_wp2_with fail
    go_ret
    refine ⟨ret_bool ?_, rfl⟩
    simp [*]
    try omega

theorem s_sort (n : Int) (w : World) :
    Calls Tryz.prog 105 #[.int .i64 n] w fun e w' => e = .returned (.bool (sortB n)) ∧ w' = w := by
  go_enter Tryz.func105, Tryz.ntmps105
  go_wp2_with (go_at_call 82; refine (s_is _ _ _ _).mono ?_; rintro e w' ⟨rfl, rfl⟩)
  go_ret
  exact ⟨ret_bool rfl, rfl⟩

theorem sort_right (n : Int) (w : World) :
    Calls Tryz.prog 148 #[.int .i64 n] w fun e w' => e = .returned (.bool (sortB n)) ∧ w' = w := by
  by_cases h : 0 ≤ n
  all_goals
    go_enter Tryz.func148, Tryz.ntmps148
    go_wp2_with fail
    go_ret
    exact ⟨ret_bool (by simp [sortB, *]; try omega), rfl⟩

set_option maxHeartbeats 400000 in
theorem rec_right (n : Nd) (w : World) (ok : n.ok) :
    Calls Tryz.prog 159 #[n.val] w fun e w' => e = .returned (.bool (recB n)) ∧ Below w.heap.size w w' := by
  have hb : recB n = (n.op == 2 && n.peer.toList == [] && n.many == 0 && n.sort == 0 && wordB n.name) := rfl
  have HR := hide hb
  have HS := hide ok.1
  clear hb ok
  unfold Nd.val
  go_enter Tryz.func159, Tryz.ntmps159
  go_wp2_with (go_at_call 191; refine (word_right n.name _ (unhide HS)).mono ?_; rintro e w' ⟨rfl, rfl⟩)
  all_goals
    go_ret
    refine ⟨ret_bool ?_, alloc1 _ _⟩
    rw [unhide HR]
    simp [*]

set_option maxHeartbeats 400000 in
theorem tname_right (n : Nd) (w : World) (ok : n.ok) :
    Calls Tryz.prog 192 #[n.val] w fun e w' => e = .returned (.bool (tnameB n)) ∧ Below w.heap.size w w' := by
  have HR := hide (show tnameB n = (if n.op == 3 then wordB n.name && !(n.name.toList == n.peer.toList) else n.name.toList == []) from rfl)
  obtain ⟨b, hb⟩ : ∃ b, wordB n.name = b := ⟨_, rfl⟩
  have HB := hide hb
  have HS := hide ok.1
  obtain ⟨c, hc⟩ : ∃ c, (n.op == 3) = c := ⟨_, rfl⟩
  have HC := hide hc
  clear hb ok
  unfold Nd.val
  cases b
  all_goals cases c
  all_goals
    go_enter Tryz.func192, Tryz.ntmps192
    go_wp2_with (go_at_call 191; refine (word_right n.name _ (unhide HS)).mono ?_; rintro e w' ⟨rfl, rfl⟩; rw [unhide HB])
    all_goals
      go_ret
      refine ⟨ret_bool ?_, alloc1 _ _⟩
      rw [unhide HR, unhide HB, unhide HC]
      simp [*]

set_option maxHeartbeats 400000 in
theorem talk_right (n : Nd) (w : World) (ok : n.ok) (hop : n.op = 3 ∨ n.op = 5 ∨ n.op = 6) :
    Calls Tryz.prog 163 #[n.val] w fun e w' => e = .returned (.bool (talkI n)) ∧ Below w.heap.size w w' := by
  have HR : Hid (talkI n = (n.sort == 0 && manyB n.many && wordB n.peer && tnameB n)) := hide (by rcases hop with h | h | h <;> simp [talkI, h])
  obtain ⟨b, hb⟩ : ∃ b, tnameB n = b := ⟨_, rfl⟩
  obtain ⟨c, hc⟩ : ∃ c, wordB n.peer = c := ⟨_, rfl⟩
  have HB := hide hb
  have HB2 : Hid (tnameB ⟨n.op, n.name, n.peer, n.many, 0⟩ = b) := hide hb
  have HC := hide hc
  have HO := hide ok
  have HT := hide ok.2
  clear hb hc ok hop
  unfold Nd.val
  cases b
  all_goals cases c
  all_goals
    go_enter Tryz.func163, Tryz.ntmps163
    go_wp2_with (first | (go_at_call 192; refine (tname_right ⟨n.op, n.name, n.peer, n.many, 0⟩ _ (unhide HO)).mono ?_; rintro e w' ⟨rfl, hb'⟩; rw [HB2.out]; have HBE := hide hb'; clear hb') | (go_at_call_of 191 n.peer; refine (word_right n.peer _ (unhide HT)).mono ?_; rintro e w' ⟨rfl, rfl⟩; rw [unhide HC]))
    all_goals
      go_ret
      refine ⟨ret_bool ?_, ?_⟩
      · rw [unhide HR, unhide HB, unhide HC]
        simp [manyB, *]
        try omega
      · first | exact (alloc1 _ _).trans (HBE.out.mono (alloc1 _ _).size) | exact alloc1 _ _

set_option maxHeartbeats 400000 in
theorem case_right (n : Nd) (w : World) (ok : n.ok) :
    Calls Tryz.prog 193 #[n.val] w fun e w' => e = .returned (.bool (caseB n)) ∧ Below w.heap.size w w' := by
  have HR := hide (show caseB n = (n.op == 4 && n.peer.toList == [] && n.many == 0 && wordB n.name && sortB n.sort) from rfl)
  obtain ⟨b, hb⟩ : ∃ b, wordB n.name = b := ⟨_, rfl⟩
  have HB := hide hb
  have HS := hide ok.1
  clear hb ok
  unfold Nd.val
  cases b
  all_goals
    go_enter Tryz.func193, Tryz.ntmps193
    go_wp2_with (first | (go_at_call 191; refine (word_right n.name _ (unhide HS)).mono ?_; rintro e w' ⟨rfl, rfl⟩; rw [unhide HB]) | (go_at_call 148; refine (sort_right n.sort _).mono ?_; rintro e w' ⟨rfl, rfl⟩))
    all_goals
      go_ret
      refine ⟨ret_bool ?_, alloc1 _ _⟩
      rw [unhide HR, unhide HB]
      simp [*]

set_option maxHeartbeats 800000 in
theorem s_talk (part : Bool) (bx : Nat) (n : Nd) (w : World) (ok : n.ok) (hx : w.cell? ⟨bx, 1, none⟩ = some (.bool part)) :
    Calls Tryz.prog 155 #[.pointer (some ⟨bx, 0, none⟩), n.val] w fun e w' => e = .returned (.bool (talkS part n)) ∧ Below w.heap.size w w' := by
  have HR := hide (show talkS part n = (wordB n.peer && manyB n.many && n.sort == 0 && (if part then n.name.toList == [] && (n.op == 5 || n.op == 6) else n.op == 3 && wordB n.name && !(n.name.toList == n.peer.toList))) from rfl)
  obtain ⟨b, hb⟩ : ∃ b, wordB n.name = b := ⟨_, rfl⟩
  obtain ⟨c, hc⟩ : ∃ c, wordB n.peer = c := ⟨_, rfl⟩
  obtain ⟨d, hd⟩ : ∃ d, (decide (1 ≤ n.many) && decide (n.many ≤ 4)) = d := ⟨_, rfl⟩
  have HB := hide hb
  have HC := hide hc
  have HD := hide hd
  have HM := hide (show manyB n.many = d from hd)
  have HS := hide ok.1
  have HT := hide ok.2
  have hlt : bx < w.heap.size := World.block_lt_of_cell? w _ hx
  clear hb hc hd ok
  unfold Nd.val
  cases b
  all_goals cases c
  all_goals cases d
  all_goals cases part
  all_goals
    go_enter Tryz.func155, Tryz.ntmps155
    go_wp2_with (first | (go_at_call_of 154 n.name; refine (s_name n.name _ (unhide HS)).mono ?_; rintro e w' ⟨rfl, rfl⟩; rw [unhide HB]) | (go_at_call_of 154 n.peer; refine (s_name n.peer _ (unhide HT)).mono ?_; rintro e w' ⟨rfl, rfl⟩; rw [unhide HC]) | (go_at_call 82; refine (s_is _ _ _ _).mono ?_; rintro e w' ⟨rfl, rfl⟩; rw [unhide HD]))
    all_goals
      go_ret
      refine ⟨ret_bool ?_, alloc1 _ _⟩
      rw [unhide HR, unhide HB, unhide HC, unhide HM]
      simp [*]
      try simp_all
end Go.Proofs.YtaaeledleldllaaGreat
namespace Go.Proofs.YtaaeledleldllaaGreat
open Go.RowKit

def NodeAt (w : World) (b o : Nat) (n : Nd) : Prop :=
  w.cell? ⟨b, o, none⟩ = some (.int .i64 n.op) ∧ w.cell? ⟨b, o + 1, none⟩ = some (.string n.name) ∧ w.cell? ⟨b, o + 2, none⟩ = some (.string n.peer) ∧
  w.cell? ⟨b, o + 3, none⟩ = some (.int .i64 n.many) ∧ w.cell? ⟨b, o + 4, none⟩ = some (.int .i64 n.sort)
def RowAt (w : World) (b : Nat) : Nat → List Nd → Prop
  | _, [] => True
  | o, n :: l => NodeAt w b o n ∧ RowAt w b (o + 5) l

theorem NodeAt.carry {w w' : World} {b o : Nat} {n : Nd} (h : NodeAt w b o n) {B : Nat} (hB : b < B) (hb : Below B w w') : NodeAt w' b o n := by
  obtain ⟨h0, h1, h2, h3, h4⟩ := h
  exact ⟨(hb.cell (p := ⟨b, _, none⟩) hB).trans h0, (hb.cell (p := ⟨b, _, none⟩) hB).trans h1, (hb.cell (p := ⟨b, _, none⟩) hB).trans h2, (hb.cell (p := ⟨b, _, none⟩) hB).trans h3, (hb.cell (p := ⟨b, _, none⟩) hB).trans h4⟩
theorem NodeAt.lt {w : World} {b o : Nat} {n : Nd} (h : NodeAt w b o n) : b < w.heap.size := World.block_lt_of_cell? w _ h.1
theorem RowAt.carry {w w' : World} {b B : Nat} (hB : b < B) (hb : Below B w w') : ∀ {l : List Nd} {o : Nat}, RowAt w b o l → RowAt w' b o l
  | [], _, _ => trivial
  | _ :: _, _, h => ⟨h.1.carry hB hb, RowAt.carry hB hb h.2⟩
theorem RowAt.lt {w : World} {b o : Nat} {n : Nd} {l : List Nd} (h : RowAt w b o (n :: l)) : b < w.heap.size := h.1.lt
theorem RowAt.get {w : World} {b : Nat} : ∀ {l : List Nd} {o : Nat}, RowAt w b o l → ∀ i (h : i < l.length), NodeAt w b (o + i * 5) l[i]
  | _ :: _, _, h, 0, _ => by simpa using h.1
  | _ :: l, o, h, i + 1, hi => by
    have := h.2.get i (by simpa using hi)
    rw [show o + 5 + i * 5 = o + (i + 1) * 5 from by omega] at this
    simpa using this
theorem RowAt.drop {w : World} {b : Nat} : ∀ {l : List Nd} {o : Nat}, RowAt w b o l → ∀ i, RowAt w b (o + i * 5) (l.drop i)
  | _, _, h, 0 => by simpa using h
  | [], _, _, i + 1 => by simp [RowAt]
  | _ :: l, o, h, i + 1 => by
    have := h.2.drop i
    rw [show o + 5 + i * 5 = o + (i + 1) * 5 from by omega] at this
    simpa using this

def SlAt (w : World) (B : Nat) (v : Value) (ns : List Nd) : Prop :=
  ∃ ao cap, v = .slice ao ns.length cap ∧ ns.length ≤ cap ∧ (cap ≤ 9223372036854775807 ∧ ns.length ≤ 4294967296) ∧ (ns ≠ [] → ∃ b o, ao = some ⟨b, o, none⟩ ∧ b < B ∧ RowAt w b o ns)
theorem SlAt.carry {w w' : World} {B : Nat} {v : Value} {ns : List Nd} (h : SlAt w B v ns) (hb : Below B w w') : SlAt w' B v ns := by
  obtain ⟨ao, cap, h1, h2, h3, h4⟩ := h
  refine ⟨ao, cap, h1, h2, h3, fun hne => ?_⟩
  obtain ⟨b, o, e, hlt, hr⟩ := h4 hne
  exact ⟨b, o, e, hlt, hr.carry hlt hb⟩

def PlaceAt (w : World) : Value → List Nd → Prop
  | p, [] => p = .pointer none
  | p, n :: st => ∃ b q, p = .pointer (some ⟨b, 0, none⟩) ∧ NodeAt w b 0 n ∧ w.cell? ⟨b, 5, none⟩ = some (.int .i64 (st.length + 1 : Nat)) ∧ w.cell? ⟨b, 6, none⟩ = some q ∧ PlaceAt w q st
theorem PlaceAt.carry {w w' : World} (hb : Below w.heap.size w w') : ∀ {st : List Nd} {p : Value}, PlaceAt w p st → PlaceAt w' p st
  | [], _, h => h
  | _ :: _, _, ⟨b, q, e, hn, h5, h6, h⟩ => ⟨b, q, e, hn.carry hn.lt hb, (hb.cell (p := ⟨b, _, none⟩) hn.lt).trans h5, (hb.cell (p := ⟨b, _, none⟩) hn.lt).trans h6, PlaceAt.carry hb h⟩
theorem PlaceAt.shape {w : World} {st : List Nd} {p : Value} (h : PlaceAt w p st) : ∃ u, p = .pointer u := by
  cases st with
  | nil => exact ⟨_, h⟩
  | cons => obtain ⟨b, q, e, _⟩ := h; exact ⟨_, e⟩

def fullB (st : List Nd) : Bool := st.length == 10
def withinB (st : List Nd) (name : ByteArray) : Bool := st.any fun n => n.op == 2 && n.name.toList == name.toList
def backB (said : Bool) : List Nd → ByteArray → Bool
  | [], _ => false
  | n :: st, name => if n.op == 2 then (if n.name.toList == name.toList then said else backB said st name) else backB true st name

theorem p_full (st : List Nd) (p : Value) (w : World) (hp : PlaceAt w p st) :
    Calls Tryz.prog 161 #[p] w fun e w' => e = .returned (.bool (fullB st)) ∧ w' = w := by
  cases st with
  | nil =>
    cases hp
    go_enter Tryz.func161, Tryz.ntmps161
    go_wp2_with fail
    go_ret
    exact ⟨ret_bool rfl, rfl⟩
  | cons n st =>
    obtain ⟨b, q, rfl, hn, h5, h6, h⟩ := hp
    clear hn h6 h
    go_enter Tryz.func161, Tryz.ntmps161
    go_wp2_with fail
    go_ret
    refine ⟨ret_bool ?_, rfl⟩
    rw [fullB, List.length_cons]
    cases h : ((st.length : Int) + 1 == 10)
    · rw [beq_eq_false_iff_ne] at h ⊢; omega
    · rw [beq_iff_eq] at h ⊢; omega

theorem p_inner (st : List Nd) (p : Value) (n : Nd) (w : World) (hp : PlaceAt w p st) (hl : st.length < 1000) :
    Calls Tryz.prog 162 #[p, n.val] w fun e w' => ∃ q, e = .returned q ∧ PlaceAt w' q (n :: st) ∧ Below w.heap.size w w' := by
  have HP := hide hp
  have HL := hide hl
  cases st with
  | nil =>
    cases hp
    unfold Nd.val
    go_enter Tryz.func162, Tryz.ntmps162
    go_wp2_with fail
    go_ret
    refine ⟨_, rfl, ⟨_, _, rfl, ⟨?_, ?_, ?_, ?_, ?_⟩, ?_, ?_, rfl⟩, (alloc1 _ _).trans (((alloc1 _ _)).mono (by simp))⟩
    all_goals simp
  | cons n' st =>
    obtain ⟨b, q, rfl, hn, h5, h6, h⟩ := hp
    have hlt := hn.lt
    clear hn h6 h
    unfold Nd.val
    go_enter Tryz.func162, Tryz.ntmps162
    have ha : wrap64 ((st.length : Int) + 1 + 1) = (st.length : Int) + 1 + 1 := by
      simp only [List.length_cons] at hl
      simp only [wrap64]
      omega
    go_wp2_with fail
    go_region
    go_wp2_with fail
    go_ret
    refine ⟨_, rfl, ⟨w.heap.size + 1, .pointer (some ⟨b, 0, none⟩), rfl, ⟨?_, ?_, ?_, ?_, ?_⟩, ?_, ?_, ?_⟩, ((alloc1 _ _).trans (((alloc1 _ _)).mono (by simp))).drew⟩
    case refine_8 => exact PlaceAt.carry ((alloc1 _ _).trans (((alloc1 _ _)).mono (by simp))).drew HP.out
    all_goals simp
    all_goals omega

set_option maxHeartbeats 400000 in
theorem p_within (st : List Nd) (p : Value) (name : ByteArray) (w : World) (hp : PlaceAt w p st) :
    Calls Tryz.prog 160 #[p, .string name] w fun e w' => e = .returned (.bool (withinB st name)) ∧ w' = w := by
  obtain ⟨u, rfl⟩ := hp.shape
  have HP := hide hp
  clear hp
  go_enter Tryz.func160, Tryz.ntmps160
  go_wp2_with fail
  go_loopg [0] st.length (fun k p wr => wr = w ∧ ∃ st', st'.length = k ∧ PlaceAt w p st' ∧ withinB st' name = withinB st name)
  case atStart => exact ⟨rfl, st, rfl, HP.out, rfl⟩
  case round =>
    obtain ⟨rfl, st', hk, hp, he⟩ := hrel
    have HK := hide hk
    have HE := hide he
    clear hk he
    cases st' with
    | nil =>
      cases hp
      go_wp2_with fail
      go_ret
      exact ⟨ret_bool HE.out.symm, rfl⟩
    | cons n st' =>
      obtain ⟨b, q, rfl, ⟨h0, h1, h2, h3, h4⟩, h5, h6, h⟩ := hp
      obtain ⟨u', rfl⟩ := h.shape
      have HQ := hide h
      clear h h2 h3 h4 h5
      go_wp2_with fail
      all_goals
        first
          | (go_ret
             refine ⟨ret_bool ?_, rfl⟩
             rw [← HE.out]
             simp_all [withinB])
          | (go_roundg st'.length
             case measure => have := HK.out; simp at this; omega
             case rel => exact ⟨rfl, st', rfl, HQ.out, by rw [← HE.out]; simp_all [withinB]⟩)

set_option maxHeartbeats 400000 in
theorem p_back (st : List Nd) (p : Value) (name : ByteArray) (w : World) (hp : PlaceAt w p st) :
    Calls Tryz.prog 158 #[p, .string name] w fun e w' => e = .returned (.bool (backB false st name)) ∧ w' = w := by
  obtain ⟨u, rfl⟩ := hp.shape
  have HP := hide hp
  clear hp
  go_enter Tryz.func158, Tryz.ntmps158
  go_wp2_with fail
  go_loopg [0, 5] st.length (fun k p said wr => wr = w ∧ ∃ st' b, st'.length = k ∧ said = .bool b ∧ PlaceAt w p st' ∧ backB b st' name = backB false st name)
  case atStart => exact ⟨rfl, st, false, rfl, rfl, HP.out, rfl⟩
  case round =>
    obtain ⟨rfl, st', b0, hk, rfl, hp, he⟩ := hrel
    have HK := hide hk
    have HE := hide he
    clear hk he
    cases st' with
    | nil =>
      cases hp
      go_wp2_with fail
      go_ret
      exact ⟨ret_bool HE.out.symm, rfl⟩
    | cons n st' =>
      obtain ⟨b, q, rfl, ⟨h0, h1, h2, h3, h4⟩, h5, h6, h⟩ := hp
      obtain ⟨u', rfl⟩ := h.shape
      have HQ := hide h
      clear h h2 h3 h4 h5
      go_wp2_with fail
      all_goals
        first
          | (go_ret
             refine ⟨ret_bool ?_, rfl⟩
             rw [← HE.out]
             simp_all [backB])
          | (go_roundg st'.length
             case measure => have := HK.out; simp at this; omega
             case rel => exact ⟨rfl, st', _, rfl, rfl, HQ.out, by rw [← HE.out]; simp_all [backB]⟩)
end Go.Proofs.YtaaeledleldllaaGreat
namespace Go.Proofs.YtaaeledleldllaaGreat
open Go.RowKit

def hasB (ls : List ByteArray) (t : ByteArray) : Bool := ls.any fun s => s.toList == t.toList

def TextsAt (w : World) (v : Value) (ls : List ByteArray) : Prop :=
  ∃ ao cap, v = .slice ao ls.length cap ∧ ls.length ≤ cap ∧ ls.length ≤ 4294967296 ∧ (ls ≠ [] → ∃ b o, ao = some ⟨b, o, none⟩ ∧ ∀ i (h : i < ls.length), w.cell? ⟨b, o + i, none⟩ = some (.string ls[i]))
theorem TextsAt.carry {w w' : World} {v : Value} {ls : List ByteArray} (h : TextsAt w v ls) (hb : Below w.heap.size w w') : TextsAt w' v ls := by
  obtain ⟨ao, cap, h1, h2, h3, h4⟩ := h
  refine ⟨ao, cap, h1, h2, h3, fun hne => ?_⟩
  obtain ⟨b, o, e, hr⟩ := h4 hne
  refine ⟨b, o, e, fun i hi => ?_⟩
  exact (hb.cell (p := ⟨b, _, none⟩) (World.block_lt_of_cell? w _ (hr i hi))).trans (hr i hi)

theorem has_take {ls : List ByteArray} {t : ByteArray} {k : Nat} (hk : k < ls.length) (h : hasB (ls.take k) t = false) (he : (ls[k].toList == t.toList) = false) : hasB (ls.take (k + 1)) t = false := by
  rw [hasB, List.take_succ_eq_append_getElem hk, List.any_append]
  have : (ls.take k).any (fun s => s.toList == t.toList) = false := h
  simp [this, he] at *
theorem has_hit {ls : List ByteArray} {t : ByteArray} {k : Nat} (hk : k < ls.length) (he : (ls[k].toList == t.toList) = true) : hasB ls t = true := by
  rw [hasB, List.any_eq_true]
  exact ⟨ls[k], List.getElem_mem hk, he⟩

theorem texts_own {w : World} {base e : Nat} {v : Value} {ls : List ByteArray} (h : w.ownsRow base e 1 v ls.length (ls.map Value.string)) (hl : ls.length ≤ 4294967296) : TextsAt w v ls := by
  obtain ⟨_, hv⟩ := h
  rcases hv with ⟨rfl, h0⟩ | ⟨g, cap, cur, rfl, hg, hh, hn, hcap, hsz, htake⟩
  · have : ls = [] := List.length_eq_zero_iff.1 h0
    subst this
    exact ⟨none, 0, rfl, Nat.le_refl _, hl, fun h => absurd rfl h⟩
  · refine ⟨_, cap, rfl, hn, hl, fun _ => ⟨g, 0, rfl, fun i hi => ?_⟩⟩
    have h1 : cur.toList[i]? = some (.string ls[i]) := by
      have h2 : (cur.toList.take (ls.length * 1))[i]? = (ls.map Value.string)[i]? := by rw [htake]
      rw [List.getElem?_take, if_pos (by omega)] at h2
      rw [h2]
      simp [hi]
    have h2 : cur[i]? = some (.string ls[i]) := by rw [← h1]; simp
    simp only [World.cell?, hh]
    simpa using h2
theorem own_below {w w' : World} {base e size : Nat} {v : Value} {n : Nat} {xs : List Value} (h : w.ownsRow base e size v n xs) (hb : Below w.heap.size w w') : w'.ownsRow base e size v n xs := by
  obtain ⟨h1, hv⟩ := h
  refine ⟨h1, ?_⟩
  rcases hv with hv | ⟨g, cap, cur, rfl, hg, hh, r⟩
  · exact .inl hv
  · have hlt : g < w.heap.size := by
      rcases Nat.lt_or_ge g w.heap.size with h | h
      · exact h
      · rw [Array.getElem?_eq_none h] at hh; exact absurd hh (by simp)
    exact .inr ⟨g, cap, cur, rfl, hg, by rw [hb.block g hlt]; exact hh, r⟩
theorem own_row {w : World} {base e size : Nat} {v : Value} {n : Nat} {xs : List Value} (h : w.ownsRow base e size v n xs) : ∀ k, v.ownBlock = some k → base ≤ k := by
  obtain ⟨_, hv⟩ := h
  rcases hv with ⟨rfl, _⟩ | ⟨g, cap, cur, rfl, hg, r⟩
  · intro k hk; cases hk
  · intro k hk; cases hk; exact hg

set_option maxHeartbeats 400000 in
theorem s_among (ls : List ByteArray) (t : ByteArray) (v : Value) (w : World) (hv : TextsAt w v ls) :
    Calls Tryz.prog 62 #[v, .string t] w fun e w' => e = .returned (.bool (hasB ls t)) ∧ w' = w := by
  obtain ⟨ao, cap, rfl, hc, hm, hr⟩ := hv
  have HR := hide hr
  clear hr
  go_enter Tryz.func62, Tryz.ntmps62
  go_wp2_with fail
  go_loop [5] (fun i => ∃ k : Nat, k ≤ ls.length ∧ i = .int .i64 k ∧ hasB (ls.take k) t = false) (fun i => ls.length - (intOf i).toNat)
  case atStart => exact ⟨0, Nat.zero_le _, rfl, rfl⟩
  case round =>
    obtain ⟨k, hk, rfl, hall⟩ := hrel
    have HA := hide hall
    clear hall
    by_cases hlt : k < ls.length
    · obtain ⟨b, o, rfl, hcell⟩ := HR.out (by intro h; simp [h] at hlt)
      have hck := hcell k hlt
      obtain ⟨s, hs⟩ : ∃ s, s = ls[k] := ⟨_, rfl⟩
      rw [← hs] at hck
      have HSs := hide hs
      clear hcell hs
      cases heq : (s.toList == t.toList)
      all_goals
        have HE := hide heq
      · go_wp2_with fail
        go_round
        case rel => exact ⟨k + 1, by omega, by go_num, has_take hlt HA.out (by rw [← HSs.out]; exact HE.out)⟩
        case measure => simp [intOf]; omega
      · go_wp2_with fail
        go_ret
        exact ⟨ret_bool (has_hit hlt (by rw [← HSs.out]; exact HE.out)), rfl⟩
    · go_wp2_with fail
      go_ret
      refine ⟨ret_bool ?_, rfl⟩
      have := HA.out
      rwa [List.take_of_length_le (by omega)] at this

set_option maxHeartbeats 400000 in
theorem s_index (ls : List ByteArray) (t : ByteArray) (v : Value) (w : World) (hv : TextsAt w v ls) :
    Calls Tryz.prog 147 #[v, .string t] w fun e w' => ∃ j : Int, e = .returned (.int .i64 j) ∧ decide (0 ≤ j) = hasB ls t ∧ w' = w := by
  obtain ⟨ao, cap, rfl, hc, hm, hr⟩ := hv
  have HR := hide hr
  clear hr
  go_enter Tryz.func147, Tryz.ntmps147
  go_wp2_with fail
  go_loop [8] (fun i => ∃ k : Nat, k ≤ ls.length ∧ i = .int .i64 k ∧ hasB (ls.take k) t = false) (fun i => ls.length - (intOf i).toNat)
  case atStart => exact ⟨0, Nat.zero_le _, rfl, rfl⟩
  case round =>
    obtain ⟨k, hk, rfl, hall⟩ := hrel
    have HA := hide hall
    clear hall
    by_cases hlt : k < ls.length
    · obtain ⟨b, o, rfl, hcell⟩ := HR.out (by intro h; simp [h] at hlt)
      have hck := hcell k hlt
      obtain ⟨s, hs⟩ : ∃ s, s = ls[k] := ⟨_, rfl⟩
      rw [← hs] at hck
      have HSs := hide hs
      clear hcell hs
      cases heq : (t.toList == s.toList)
      all_goals
        have HE := hide heq
      · go_wp2_with fail
        go_round
        case rel => exact ⟨k + 1, by omega, by go_num, has_take hlt HA.out (by rw [← HSs.out, Bool.beq_comm]; exact HE.out)⟩
        case measure => simp [intOf]; omega
      · go_wp2_with fail
        go_ret
        exact ⟨_, rfl, by rw [has_hit hlt (by rw [← HSs.out, Bool.beq_comm]; exact HE.out)]; simp, rfl⟩
    · go_wp2_with fail
      go_ret
      refine ⟨_, rfl, ?_, rfl⟩
      have := HA.out
      rw [List.take_of_length_le (by omega)] at this
      rw [this]; rfl

set_option maxHeartbeats 400000 in
theorem s_contains (ls : List ByteArray) (t : ByteArray) (v : Value) (w : World) (hv : TextsAt w v ls) :
    Calls Tryz.prog 109 #[v, .string t] w fun e w' => e = .returned (.bool (hasB ls t)) ∧ w' = w := by
  have HV := hide hv
  obtain ⟨ao, cap, rfl, hc, hm, hr⟩ := hv
  clear hr hc hm
  go_enter Tryz.func109, Tryz.ntmps109
  go_wp2_with (go_at_call 147; refine (s_index ls t _ _ HV.out).mono ?_; rintro e w' ⟨j, rfl, hj, rfl⟩; have HJ := hide hj; clear hj)
  go_ret
  exact ⟨ret_bool HJ.out.symm, rfl⟩
end Go.Proofs.YtaaeledleldllaaGreat
namespace Go.Proofs.YtaaeledleldllaaGreat
open Go.RowKit

def kidsBy (go : List Nd → Option (List Nd)) : Nat → List ByteArray → List Nd → Option (List Nd)
  | 0, _, l => some l
  | _ + 1, _, [] => none
  | m + 1, ls, n :: l =>
    if caseB n && !hasB ls n.name then
      match go l with
      | none => none
      | some r => kidsBy go m (ls ++ [n.name]) r
    else none

def ahead (T : Nd → Bool) : Nat → List Nd → List Nd → Option (List Nd)
  | _, _, [] => none
  | 0, st, n :: l =>
    if n.op == 0 then (if endB n then some l else none)
    else if n.op == 1 then (if varB n && backB false st n.name then some l else none)
    else none
  | f + 1, st, n :: l =>
    if n.op == 0 then (if endB n then some l else none)
    else if n.op == 1 then (if varB n && backB false st n.name then some l else none)
    else if n.op == 2 then (if recB n && !withinB st n.name then ahead T f (n :: st) l else none)
    else if T n then kidsBy (ahead T f (n :: st)) n.many.toNat [] l else none

def Told (w' : World) (B : Nat) (e : Ending) (r : Option (List Nd)) : Prop :=
  ∃ v, e = .returned (.tuple #[v, .bool r.isSome]) ∧ (∀ l, r = some l → SlAt w' B v l)

def PlanCalls (f : Nat) : Prop := ∀ (st l : List Nd) (v p : Value) (w : World) (B : Nat), st.length + f = 10 → (∀ n ∈ l, n.ok) → B ≤ w.heap.size → SlAt w B v l → PlaceAt w p st →
  Calls Tryz.prog 122 #[v, p] w fun e w' => Told w' B e (ahead talkI f st l) ∧ Below w.heap.size w w'

theorem Tryz.infoS : (Tryz.prog.info? 9).map (fun i => (i.zero, i.size, i.bytes)) = some (some (.string ByteArray.empty), 1, 16) := by kernel_rfl

theorem kids_nil {go : List Nd → Option (List Nd)} {m : Nat} {ls : List ByteArray} (h : 0 < m) : kidsBy go m ls [] = none := by
  cases m with
  | zero => omega
  | succ m => rfl
theorem kids_no {go : List Nd → Option (List Nd)} {m : Nat} {ls : List ByteArray} {n : Nd} {l : List Nd} (h : 0 < m) (hc : (caseB n && !hasB ls n.name) = false) : kidsBy go m ls (n :: l) = none := by
  cases m with
  | zero => omega
  | succ m => rw [kidsBy, if_neg (by simp [hc])]
theorem kids_stop {go : List Nd → Option (List Nd)} {m : Nat} {ls : List ByteArray} {n : Nd} {l : List Nd} (h : 0 < m) (hc : (caseB n && !hasB ls n.name) = true) (hg : go l = none) : kidsBy go m ls (n :: l) = none := by
  cases m with
  | zero => omega
  | succ m => rw [kidsBy, if_pos hc, hg]
theorem kids_on {go : List Nd → Option (List Nd)} {m k : Nat} {ls : List ByteArray} {n : Nd} {l r : List Nd} (h : k < m) (hc : (caseB n && !hasB ls n.name) = true) (hg : go l = some r) : kidsBy go (m - k) ls (n :: l) = kidsBy go (m - (k + 1)) (ls ++ [n.name]) r := by
  rw [show m - k = (m - (k + 1)) + 1 from by omega, kidsBy, if_pos hc, hg]

theorem kids_suffix {go : List Nd → Option (List Nd)} (hg : ∀ l r, go l = some r → r <:+ l) : ∀ (m : Nat) (ls : List ByteArray) (l r : List Nd), kidsBy go m ls l = some r → r <:+ l
  | 0, _, l, r, h => by cases h; exact List.suffix_refl _
  | _ + 1, _, [], r, h => by cases h
  | m + 1, ls, n :: l, r, h => by
    rw [kidsBy] at h
    split at h
    · split at h
      · cases h
      · rename_i r' hr'
        exact (kids_suffix hg m _ _ _ h).trans ((hg _ _ hr').trans (List.suffix_cons _ _))
    · cases h
theorem ahead_suffix (T : Nd → Bool) : ∀ (f : Nat) (st l r : List Nd), ahead T f st l = some r → r <:+ l := by
  intro f
  induction f with
  | zero =>
    intro st l r h
    cases l with
    | nil => cases h
    | cons n l =>
      rw [ahead] at h
      repeat' split at h
      all_goals first | cases h; exact List.suffix_cons _ _ | cases h
  | succ f ih =>
    intro st l r h
    cases l with
    | nil => cases h
    | cons n l =>
      rw [ahead] at h
      repeat' split at h
      all_goals first
        | (cases h; exact List.suffix_cons _ _)
        | (cases h; done)
        | exact (ih _ _ _ h).trans (List.suffix_cons _ _)
        | exact (kids_suffix (ih _) _ _ _ _ h).trans (List.suffix_cons _ _)

theorem SlAt.tail {w : World} {B b o cap : Nat} {n : Nd} {l : List Nd} (hlt : b < B) (hr : RowAt w b o (n :: l)) (hc : (n :: l).length ≤ cap) (hm : cap ≤ 9223372036854775807 ∧ l.length < 4294967296) (ao : Option Addr) (ha : cap ≠ 1 → ao = some ⟨b, o + 5, none⟩) :
    SlAt w B (.slice ao l.length (cap - 1)) l := by
  refine ⟨ao, cap - 1, rfl, by simp at hc; omega, by omega, fun hne => ?_⟩
  have : 0 < l.length := List.length_pos_iff.2 hne
  simp at hc
  exact ⟨b, o + 5, ha (by omega), hlt, hr.2⟩

set_option maxRecDepth 100000 in
set_option maxHeartbeats 1000000 in
theorem cases_ahead (f : Nat) (hf : PlanCalls f) (n : Nd) (st l : List Nd) (v p : Value) (w : World) (B : Nat) (hlen : (n :: st).length + f = 10) (hm : 1 ≤ n.many ∧ n.many ≤ 4) (ok : ∀ n ∈ l, n.ok) (hB : B ≤ w.heap.size) (hv : SlAt w B v l) (hp : PlaceAt w p (n :: st)) :
    Calls Tryz.prog 164 #[v, p] w fun e w' => Told w' B e (kidsBy (ahead talkI f (n :: st)) n.many.toNat [] l) ∧ Below w.heap.size w w' := by
  have HP := hide hp
  have HV := hide hv
  have HF := hide hf
  have HO := hide ok
  have HL := hide hlen
  have hB' := hide hB
  obtain ⟨bp, q, rfl, ⟨h0, h1, h2, h3, h4⟩, h5, h6, h⟩ := hp
  obtain ⟨i0, hi, hz0, hz1, hz2⟩ := info_parts Tryz.infoS
  obtain ⟨m, hmm⟩ : ∃ m : Nat, n.many = m := ⟨n.many.toNat, by omega⟩
  rw [hmm] at hm h3
  have hm1 : 1 ≤ m := by omega
  have hm4 : m ≤ 4 := by omega
  rw [hmm, Int.toNat_natCast]
  obtain ⟨go, hgo⟩ : ∃ go, ahead talkI f (n :: st) = go := ⟨_, rfl⟩
  rw [hgo]
  have HG := hide hgo
  have HI := hide (And.intro hi (And.intro hz0 (And.intro hz1 hz2)))
  clear hf ok hv h0 h1 h2 h4 h5 h6 h hm hmm hlen hgo hB hi hz0 hz1 hz2
  go_enter Tryz.func164, Tryz.ntmps164
  go_wp2_with fail
  go_loopw [0, 6, 14] (fun v labels i wr => ∃ (k : Nat) (cur : List Nd) (ls : List ByteArray), k ≤ m ∧ i = .int .i64 k ∧ ls.length = k ∧ (∀ n ∈ cur, n.ok) ∧ SlAt wr B v cur ∧ wr.ownsRow w.heap.size 9 1 labels ls.length (ls.map Value.string) ∧ Below w.heap.size w wr ∧ kidsBy go (m - k) ls cur = kidsBy go m [] l)
    (fun _ _ i _ => m - (intOf i).toNat)
  case atStart => exact ⟨0, l, [], Nat.zero_le _, rfl, rfl, HO.out, HV.out, World.ownsRow_nil _ _ _ _, Below.refl _ _, rfl⟩
  case round =>
    obtain ⟨k, cur, ls, hk, rfl, hlk, hok, hsl, hown, hbel, hkid⟩ := hrel
    have HLK := hide hlk
    have HOK := hide hok
    have HSL := hide hsl
    have HOWN := hide hown
    have HBEL := hide hbel
    have HKID := hide hkid
    clear hlk hok hown hbel hkid
    obtain ⟨ao, cap, rfl, hc1, hc2, hrow⟩ := hsl
    have HROW := hide hrow
    clear hrow
    by_cases hlt : k < m
    · cases cur with
      | nil =>
        go_wp2_with fail
        go_ret2
        refine ⟨⟨.slice none 0 0, ?_, ?_⟩, HBEL.out⟩
        · rw [← HKID.out, kids_nil (by omega)]; rfl
        · rw [← HKID.out, kids_nil (by omega)]; intro l h; cases h
      | cons n1 l1 =>
        obtain ⟨b, o, rfl, hbB, hrow⟩ := HROW.out (by simp)
        have HR := hide hrow
        obtain ⟨⟨c0, c1, c2, c3, c4⟩, -⟩ := hrow
        have HBB := hide hbB
        have HN1 := hide (HOK.out n1 (by simp))
        have HTX := hide (texts_own HOWN.out (by have := HLK.out; omega))
        have hbw : b < wr.heap.size := World.block_lt_of_cell? wr _ c0
        have hz : ((l1.length : Int) + 1 == 0) = false := beq_eq_false_iff_ne.2 (by omega)
        have HC1 := hide hc1
        have HC2 := hide hc2
        simp only [List.length_cons] at hc1
        cases hcb : caseB n1
        · have HCB := hide hcb
          clear hcb
          go_wp2_with (go_at_call 193; refine (case_right n1 _ HN1.out).mono ?_; rintro e w1 ⟨rfl, hb1⟩; rw [HCB.out]; have HB1 := hide hb1; clear hb1)
          go_ret2
          have hno : kidsBy go m [] l = none := by rw [← HKID.out]; exact kids_no (by omega) (by rw [HCB.out]; rfl)
          refine ⟨⟨.slice none 0 0, ?_, ?_⟩, HBEL.out.trans (HB1.out.mono HBEL.out.size)⟩
          · rw [hno]; rfl
          · rw [hno]; intro l h; cases h
        · have HCB := hide hcb
          clear hcb
          cases hhb : hasB ls n1.name
          · have HHB := hide hhb
            clear hhb
            have HYES := hide (show (caseB n1 && !hasB ls n1.name) = true by rw [HCB.out, HHB.out]; rfl)
            go_wp2_with (first | (go_at_call 193; refine (case_right n1 _ HN1.out).mono ?_; rintro e w1 ⟨rfl, hb1⟩; rw [HCB.out]; obtain ⟨g0, g1, g2, g3, g4⟩ := (HR.out.1.carry hbw hb1); have HT1 := hide (HTX.out.carry hb1); have HOW1 := hide (own_below HOWN.out hb1); have hs1 := hb1.size; have HB1 := hide hb1; clear hb1) | (go_at_call 109; refine (s_contains ls n1.name _ _ HT1.out).mono ?_; rintro e w2 ⟨rfl, rfl⟩; rw [HHB.out]) | (at_builtin; refine wpList_append_own _ rfl (.tmp 34) (.tmp 39) 70 rfl w.heap.size 9 i0 (.string ByteArray.empty) 1 16 Tryz.underlying70 HI.out.1 HI.out.2.1 HI.out.2.2.1 HI.out.2.2.2 rfl (by decide) _ _ _ rfl (HOW1.out.alloc _) ⟨_, 0, none⟩ 1 1 [.string n1.name] rfl rfl ?c1 ?c2 ?c3 ?c4 ?c5 ?_))
            case c1 =>
              intro j u hj
              match j, hj with
              | 0, hj => simp at hj; subst hj; simp [Addr.add]
            case c2 => intro u hu; simp at hu; subst hu; rfl
            case c3 => have := HLK.out; unfold maxLen; omega
            case c4 => have := HLK.out; omega
            case c5 => have := HBEL.out.size; simp; omega
            intro v' w3 hown3 hgrow3 _
            have HOW3 := hide hown3
            have HWR3 := hide ((HB1.out.mono HBEL.out.size).trans (((alloc1 _ _).mono (by have := HBEL.out.size; omega)).grown hgrow3 (by have := HBEL.out.size; simp; omega) (own_row HOW1.out)))
            have HBel3 := hide (HBEL.out.trans HWR3.out)
            have HS3 : Hid (∀ ao', (cap ≠ 1 → ao' = some ⟨b, o + 5, none⟩) → SlAt w3 B (.slice ao' l1.length (cap - 1)) l1) := hide (fun ao' h => SlAt.tail HBB.out (HR.out.carry (Nat.lt_of_lt_of_le HBB.out hB'.out) HWR3.out) HC1.out HC2.out ao' h)
            have HP3 := hide (PlaceAt.carry HBel3.out HP.out)
            clear hown3 hgrow3
            by_cases hcap : cap = 1
            · have HL1 : Hid (l1.length = 0) := hide (by omega)
              have HSX : Hid (SlAt w3 B (.slice (some ⟨b, o, none⟩) 0 0) l1) := hide (by rw [List.length_eq_zero_iff.1 HL1.out]; exact ⟨_, _, rfl, Nat.le_refl _, by simp, fun h => absurd rfl h⟩)
              subst hcap
              cases hgo1 : go l1 with
              | none =>
                have HG1 := hide hgo1
                clear hgo1
                go_wp2_with (go_at_call 122; refine (HF.out (n :: st) l1 _ _ _ B HL.out (fun x hx => HOK.out x (List.mem_cons_of_mem _ hx)) (Nat.le_trans hB'.out HBel3.out.size) HSX.out HP3.out).mono ?_; rintro e w4 ⟨⟨v4, rfl, hs4⟩, hb4⟩; rw [HG.out, HG1.out, Option.isSome_none]; have HB4 := hide hb4; clear hs4 hb4)
                go_ret2
                have hno : kidsBy go m [] l = none := by rw [← HKID.out]; exact kids_stop (by omega) HYES.out HG1.out
                refine ⟨⟨.slice none 0 0, ?_, ?_⟩, HBel3.out.trans (HB4.out.mono HBel3.out.size)⟩
                · rw [hno]; rfl
                · rw [hno]; intro l h; cases h
              | some r =>
                have HG1 := hide hgo1
                clear hgo1
                go_wp2_with (go_at_call 122; refine (HF.out (n :: st) l1 _ _ _ B HL.out (fun x hx => HOK.out x (List.mem_cons_of_mem _ hx)) (Nat.le_trans hB'.out HBel3.out.size) HSX.out HP3.out).mono ?_; rintro e w4 ⟨⟨v4, rfl, hs4⟩, hb4⟩; rw [HG.out, HG1.out] at hs4 ⊢; rw [Option.isSome_some]; replace hs4 := hs4 r rfl; have HS4 := hide hs4; obtain ⟨ao4, cap4, rfl, hs5⟩ := hs4; have HB4 := hide hb4; clear hs5 hb4)
                go_roundw
                case rel =>
                  refine ⟨k + 1, r, ls ++ [n1.name], by omega, by go_num, by have := HLK.out; simp; omega, fun x hx => HOK.out x (List.mem_cons_of_mem _ ((ahead_suffix talkI f (n :: st) l1 r (by rw [HG.out]; exact HG1.out)).subset hx)), HS4.out, ?_, HBel3.out.trans (HB4.out.mono HBel3.out.size), ?_⟩
                  · have := own_below HOW3.out HB4.out
                    simpa using this
                  · rw [← HKID.out]
                    exact (kids_on hlt HYES.out HG1.out).symm
                case measure => simp [intOf]; omega
            · have HSX := hide (HS3.out _ (fun _ => rfl))
              cases hgo1 : go l1 with
              | none =>
                have HG1 := hide hgo1
                clear hgo1
                go_wp2_with (go_at_call 122; refine (HF.out (n :: st) l1 _ _ _ B HL.out (fun x hx => HOK.out x (List.mem_cons_of_mem _ hx)) (Nat.le_trans hB'.out HBel3.out.size) HSX.out HP3.out).mono ?_; rintro e w4 ⟨⟨v4, rfl, hs4⟩, hb4⟩; rw [HG.out, HG1.out, Option.isSome_none]; have HB4 := hide hb4; clear hs4 hb4)
                go_ret2
                have hno : kidsBy go m [] l = none := by rw [← HKID.out]; exact kids_stop (by omega) HYES.out HG1.out
                refine ⟨⟨.slice none 0 0, ?_, ?_⟩, HBel3.out.trans (HB4.out.mono HBel3.out.size)⟩
                · rw [hno]; rfl
                · rw [hno]; intro l h; cases h
              | some r =>
                have HG1 := hide hgo1
                clear hgo1
                go_wp2_with (go_at_call 122; refine (HF.out (n :: st) l1 _ _ _ B HL.out (fun x hx => HOK.out x (List.mem_cons_of_mem _ hx)) (Nat.le_trans hB'.out HBel3.out.size) HSX.out HP3.out).mono ?_; rintro e w4 ⟨⟨v4, rfl, hs4⟩, hb4⟩; rw [HG.out, HG1.out] at hs4 ⊢; rw [Option.isSome_some]; replace hs4 := hs4 r rfl; have HS4 := hide hs4; obtain ⟨ao4, cap4, rfl, hs5⟩ := hs4; have HB4 := hide hb4; clear hs5 hb4)
                go_roundw
                case rel =>
                  refine ⟨k + 1, r, ls ++ [n1.name], by omega, by go_num, by have := HLK.out; simp; omega, fun x hx => HOK.out x (List.mem_cons_of_mem _ ((ahead_suffix talkI f (n :: st) l1 r (by rw [HG.out]; exact HG1.out)).subset hx)), HS4.out, ?_, HBel3.out.trans (HB4.out.mono HBel3.out.size), ?_⟩
                  · have := own_below HOW3.out HB4.out
                    simpa using this
                  · rw [← HKID.out]
                    exact (kids_on hlt HYES.out HG1.out).symm
                case measure => simp [intOf]; omega
          · have HHB := hide hhb
            clear hhb
            go_wp2_with (first | (go_at_call 193; refine (case_right n1 _ HN1.out).mono ?_; rintro e w1 ⟨rfl, hb1⟩; rw [HCB.out]; obtain ⟨g0, g1, g2, g3, g4⟩ := (HR.out.1.carry hbw hb1); have HT1 := hide (HTX.out.carry hb1); have HB1 := hide hb1; clear hb1) | (go_at_call 109; refine (s_contains ls n1.name _ _ HT1.out).mono ?_; rintro e w2 ⟨rfl, rfl⟩; rw [HHB.out]))
            go_ret2
            have hno : kidsBy go m [] l = none := by rw [← HKID.out]; exact kids_no (by omega) (by rw [HCB.out, HHB.out]; rfl)
            refine ⟨⟨.slice none 0 0, ?_, ?_⟩, HBEL.out.trans (HB1.out.mono HBEL.out.size)⟩
            · rw [hno]; rfl
            · rw [hno]; intro l h; cases h
    · go_wp2_with fail
      go_ret2
      have hkm : k = m := by omega
      refine ⟨⟨.slice ao cur.length cap, ?_, ?_⟩, HBEL.out⟩
      · rw [← HKID.out, hkm, Nat.sub_self]; rfl
      · rw [← HKID.out, hkm, Nat.sub_self]; intro l h; cases h; exact HSL.out
end Go.Proofs.YtaaeledleldllaaGreat
