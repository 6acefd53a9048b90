/- Rows of Nodes and places, as they lie in memory; what is asked of a place. -/
import Derived.Test.YthghhccikgngjaaGreatDoorNd
import Derived.Deep.LoopGhost
namespace Go.Proofs.YthghhccikgngjaaGreatDoor
open Go.RowKit

/-- the five cells of a Node -/
def NodeAt (w : World) (b o : Nat) (n : Nd) : Prop :=
  w.cell? ⟨b, o, none⟩ = some (.int .i64 n.op) ∧ w.cell? ⟨b, o + 1, none⟩ = some (.string n.name) ∧ w.cell? ⟨b, o + 2, none⟩ = some (.string n.peer) ∧
  w.cell? ⟨b, o + 3, none⟩ = some (.int .i64 n.many) ∧ w.cell? ⟨b, o + 4, none⟩ = some (.int .i64 n.sort)
/-- a row of Nodes -/
def RowAt (w : World) (b : Nat) : Nat → List Nd → Prop
  | _, [] => True
  | o, n :: l => NodeAt w b o n ∧ RowAt w b (o + 5) l

theorem NodeAt.carry {w w' : World} {b o : Nat} {n : Nd} (h : NodeAt w b o n) {B : Nat} (hB : b < B) (hb : Below B w w') : NodeAt w' b o n := by
  obtain ⟨h0, h1, h2, h3, h4⟩ := h
  exact ⟨(hb.cell (p := ⟨b, _, none⟩) hB).trans h0, (hb.cell (p := ⟨b, _, none⟩) hB).trans h1, (hb.cell (p := ⟨b, _, none⟩) hB).trans h2, (hb.cell (p := ⟨b, _, none⟩) hB).trans h3, (hb.cell (p := ⟨b, _, none⟩) hB).trans h4⟩
theorem NodeAt.lt {w : World} {b o : Nat} {n : Nd} (h : NodeAt w b o n) : b < w.heap.size := World.block_lt_of_cell? w _ h.1
theorem RowAt.carry {w w' : World} {b B : Nat} (hB : b < B) (hb : Below B w w') : ∀ {l : List Nd} {o : Nat}, RowAt w b o l → RowAt w' b o l
  | [], _, _ => trivial
  | _ :: _, _, h => ⟨h.1.carry hB hb, RowAt.carry hB hb h.2⟩
theorem RowAt.lt {w : World} {b o : Nat} {n : Nd} {l : List Nd} (h : RowAt w b o (n :: l)) : b < w.heap.size := h.1.lt
theorem RowAt.get {w : World} {b : Nat} : ∀ {l : List Nd} {o : Nat}, RowAt w b o l → ∀ i (h : i < l.length), NodeAt w b (o + i * 5) l[i]
  | _ :: _, _, h, 0, _ => by simpa using h.1
  | _ :: l, o, h, i + 1, hi => by
    have := h.2.get i (by simpa using hi)
    rw [show o + 5 + i * 5 = o + (i + 1) * 5 from by omega] at this
    simpa using this
theorem RowAt.drop {w : World} {b : Nat} : ∀ {l : List Nd} {o : Nat}, RowAt w b o l → ∀ i, RowAt w b (o + i * 5) (l.drop i)
  | _, _, h, 0 => by simpa using h
  | [], _, _, i + 1 => by simp [RowAt]
  | _ :: l, o, h, i + 1 => by
    have := h.2.drop i
    rw [show o + 5 + i * 5 = o + (i + 1) * 5 from by omega] at this
    simpa using this

/-- a slice's value holds a row of Nodes, in a block below B -/
def SlAt (w : World) (B : Nat) (v : Value) (ns : List Nd) : Prop :=
  ∃ ao cap, v = .slice ao ns.length cap ∧ ns.length ≤ cap ∧ (cap ≤ 9223372036854775807 ∧ ns.length ≤ 4294967296) ∧ (ns ≠ [] → ∃ b o, ao = some ⟨b, o, none⟩ ∧ b < B ∧ RowAt w b o ns)
theorem SlAt.carry {w w' : World} {B : Nat} {v : Value} {ns : List Nd} (h : SlAt w B v ns) (hb : Below B w w') : SlAt w' B v ns := by
  obtain ⟨ao, cap, h1, h2, h3, h4⟩ := h
  refine ⟨ao, cap, h1, h2, h3, fun hne => ?_⟩
  obtain ⟨b, o, e, hlt, hr⟩ := h4 hne
  exact ⟨b, o, e, hlt, hr.carry hlt hb⟩

/-- a place: what it stands in, the inner ones first -/
def PlaceAt (w : World) : Value → List Nd → Prop
  | p, [] => p = .pointer none
  | p, n :: st => ∃ b q, p = .pointer (some ⟨b, 0, none⟩) ∧ NodeAt w b 0 n ∧ w.cell? ⟨b, 5, none⟩ = some (.int .i64 (st.length + 1 : Nat)) ∧ w.cell? ⟨b, 6, none⟩ = some q ∧ PlaceAt w q st
theorem PlaceAt.carry {w w' : World} (hb : Below w.heap.size w w') : ∀ {st : List Nd} {p : Value}, PlaceAt w p st → PlaceAt w' p st
  | [], _, h => h
  | _ :: _, _, ⟨b, q, e, hn, h5, h6, h⟩ => ⟨b, q, e, hn.carry hn.lt hb, (hb.cell (p := ⟨b, _, none⟩) hn.lt).trans h5, (hb.cell (p := ⟨b, _, none⟩) hn.lt).trans h6, PlaceAt.carry hb h⟩
theorem PlaceAt.shape {w : World} {st : List Nd} {p : Value} (h : PlaceAt w p st) : ∃ u, p = .pointer u := by
  cases st with
  | nil => exact ⟨_, h⟩
  | cons => obtain ⟨b, q, e, _⟩ := h; exact ⟨_, e⟩

def fullB (st : List Nd) : Bool := st.length == 10
def withinB (st : List Nd) (name : ByteArray) : Bool := st.any fun n => n.op == 2 && n.name.toList == name.toList
def backB (said : Bool) : List Nd → ByteArray → Bool
  | [], _ => false
  | n :: st, name => if n.op == 2 then (if n.name.toList == name.toList then said else backB said st name) else backB true st name

theorem p_full (st : List Nd) (p : Value) (w : World) (hp : PlaceAt w p st) :
    Calls Tryz.prog 289 #[p] w fun e w' => e = .returned (.bool (fullB st)) ∧ w' = w := by
  cases st with
  | nil =>
    cases hp
    go_enter Tryz.func289, Tryz.ntmps289
    go_wp2_with fail
    go_ret
    exact ⟨ret_bool rfl, rfl⟩
  | cons n st =>
    obtain ⟨b, q, rfl, hn, h5, h6, h⟩ := hp
    clear hn h6 h
    go_enter Tryz.func289, Tryz.ntmps289
    go_wp2_with fail
    go_ret
    refine ⟨ret_bool ?_, rfl⟩
    rw [fullB, List.length_cons]
    cases h : ((st.length : Int) + 1 == 10)
    · rw [beq_eq_false_iff_ne] at h ⊢; omega
    · rw [beq_iff_eq] at h ⊢; omega

theorem p_inner (st : List Nd) (p : Value) (n : Nd) (w : World) (hp : PlaceAt w p st) (hl : st.length < 1000) :
    Calls Tryz.prog 290 #[p, n.val] w fun e w' => ∃ q, e = .returned q ∧ PlaceAt w' q (n :: st) ∧ Below w.heap.size w w' := by
  have HP := hide hp
  have HL := hide hl
  cases st with
  | nil =>
    cases hp
    unfold Nd.val
    go_enter Tryz.func290, Tryz.ntmps290
    go_wp2_with fail
    go_ret
    refine ⟨_, rfl, ⟨_, _, rfl, ⟨?_, ?_, ?_, ?_, ?_⟩, ?_, ?_, rfl⟩, (alloc1 _ _).trans (((alloc1 _ _)).mono (by simp))⟩
    all_goals simp
  | cons n' st =>
    obtain ⟨b, q, rfl, hn, h5, h6, h⟩ := hp
    have hlt := hn.lt
    clear hn h6 h
    unfold Nd.val
    go_enter Tryz.func290, Tryz.ntmps290
    have ha : wrap64 ((st.length : Int) + 1 + 1) = (st.length : Int) + 1 + 1 := by
      simp only [List.length_cons] at hl
      simp only [wrap64]
      omega
    go_wp2_with fail
    go_region
    go_wp2_with fail
    go_ret
    refine ⟨_, rfl, ⟨w.heap.size + 1, .pointer (some ⟨b, 0, none⟩), rfl, ⟨?_, ?_, ?_, ?_, ?_⟩, ?_, ?_, ?_⟩, ((alloc1 _ _).trans (((alloc1 _ _)).mono (by simp))).drew⟩
    case refine_8 => exact PlaceAt.carry ((alloc1 _ _).trans (((alloc1 _ _)).mono (by simp))).drew HP.out
    all_goals simp
    all_goals omega

set_option maxHeartbeats 400000 in
theorem p_within (st : List Nd) (p : Value) (name : ByteArray) (w : World) (hp : PlaceAt w p st) :
    Calls Tryz.prog 288 #[p, .string name] w fun e w' => e = .returned (.bool (withinB st name)) ∧ w' = w := by
  obtain ⟨u, rfl⟩ := hp.shape
  have HP := hide hp
  clear hp
  go_enter Tryz.func288, Tryz.ntmps288
  go_wp2_with fail
  go_loopg [0] st.length (fun k p wr => wr = w ∧ ∃ st', st'.length = k ∧ PlaceAt w p st' ∧ withinB st' name = withinB st name)
  case atStart => exact ⟨rfl, st, rfl, HP.out, rfl⟩
  case round =>
    obtain ⟨rfl, st', hk, hp, he⟩ := hrel
    have HK := hide hk
    have HE := hide he
    clear hk he
    cases st' with
    | nil =>
      cases hp
      go_wp2_with fail
      go_ret
      exact ⟨ret_bool HE.out.symm, rfl⟩
    | cons n st' =>
      obtain ⟨b, q, rfl, ⟨h0, h1, h2, h3, h4⟩, h5, h6, h⟩ := hp
      obtain ⟨u', rfl⟩ := h.shape
      have HQ := hide h
      clear h h2 h3 h4 h5
      go_wp2_with fail
      all_goals
        first
          | (go_ret
             refine ⟨ret_bool ?_, rfl⟩
             rw [← HE.out]
             simp_all [withinB])
          | (go_roundg st'.length
             case measure => have := HK.out; simp at this; omega
             case rel => exact ⟨rfl, st', rfl, HQ.out, by rw [← HE.out]; simp_all [withinB]⟩)

set_option maxHeartbeats 400000 in
theorem p_back (st : List Nd) (p : Value) (name : ByteArray) (w : World) (hp : PlaceAt w p st) :
    Calls Tryz.prog 286 #[p, .string name] w fun e w' => e = .returned (.bool (backB false st name)) ∧ w' = w := by
  obtain ⟨u, rfl⟩ := hp.shape
  have HP := hide hp
  clear hp
  go_enter Tryz.func286, Tryz.ntmps286
  go_wp2_with fail
  go_loopg [0, 5] st.length (fun k p said wr => wr = w ∧ ∃ st' b, st'.length = k ∧ said = .bool b ∧ PlaceAt w p st' ∧ backB b st' name = backB false st name)
  case atStart => exact ⟨rfl, st, false, rfl, rfl, HP.out, rfl⟩
  case round =>
    obtain ⟨rfl, st', b0, hk, rfl, hp, he⟩ := hrel
    have HK := hide hk
    have HE := hide he
    clear hk he
    cases st' with
    | nil =>
      cases hp
      go_wp2_with fail
      go_ret
      exact ⟨ret_bool HE.out.symm, rfl⟩
    | cons n st' =>
      obtain ⟨b, q, rfl, ⟨h0, h1, h2, h3, h4⟩, h5, h6, h⟩ := hp
      obtain ⟨u', rfl⟩ := h.shape
      have HQ := hide h
      clear h h2 h3 h4 h5
      go_wp2_with fail
      all_goals
        first
          | (go_ret
             refine ⟨ret_bool ?_, rfl⟩
             rw [← HE.out]
             simp_all [backB])
          | (go_roundg st'.length
             case measure => have := HK.out; simp at this; omega
             case rel => exact ⟨rfl, st', _, rfl, rfl, HQ.out, by rw [← HE.out]; simp_all [backB]⟩)
end Go.Proofs.YthghhccikgngjaaGreatDoor
