/- join at two, three, four and five texts; talkText. -/
import Derived.Test.YtmjlblbhakppfaaGreatDoorQB16
import Derived.Test.YtmjlblbhakppfaaGreatDoorQB01
import Derived.Test.YtmjlblbhakppfaaGreatDoorQB11
import Derived.Test.YtmjlblbhakppfaaGreatDoorQB14
namespace Go.Proofs.YtmjlblbhakppfaaGreatDoor
open Go.RowKit

theorem ba_ext {a b : ByteArray} (h : a.data.toList = b.data.toList) : a = b := by
  apply ByteArray.ext
  exact Array.ext' h
theorem app_data (a b : ByteArray) : (a ++ b).data.toList = a.data.toList ++ b.data.toList := by
  rw [ByteArray.data_append, Array.toList_append]
theorem joinS_data (ss : List ByteArray) : (joinS ss).data.toList = ss.flatMap (fun s => s.data.toList) := by
  simp [joinS, flatTo]

theorem join2 (a b : ByteArray) (k : Nat) (w : World) (hk : k = w.heap.size) (h : a.size + b.size ≤ 1000000) :
    Calls Tryz.prog 66 #[.slice (some ⟨k, 0, none⟩) 2 2] (w.alloc (.cells #[.string a, .string b] 9)) fun e w' => e = .returned (.string (a ++ b)) ∧ Below w.heap.size w w' := by
  subst hk
  refine (join_any [a, b] w.heap.size 2 _ (by simp) (fun i hi => ?_) ?_ (by simp)).mono ?_
  · match i, hi with
    | 0, _ => simp
    | 1, _ => simp
  · simp [totTo]; omega
  · rintro e w' ⟨rfl, hb⟩
    refine ⟨ret_str (ba_ext ?_), (alloc1 _ _).trans (hb.mono (by simp))⟩
    rw [joinS_data]
    simp

theorem join3 (a b c : ByteArray) (k : Nat) (w : World) (hk : k = w.heap.size) (h : a.size + b.size + c.size ≤ 1000000) :
    Calls Tryz.prog 66 #[.slice (some ⟨k, 0, none⟩) 3 3] (w.alloc (.cells #[.string a, .string b, .string c] 9)) fun e w' => e = .returned (.string (a ++ b ++ c)) ∧ Below w.heap.size w w' := by
  subst hk
  refine (join_any [a, b, c] w.heap.size 3 _ (by simp) (fun i hi => ?_) ?_ (by simp)).mono ?_
  · match i, hi with
    | 0, _ => simp
    | 1, _ => simp
    | 2, _ => simp
  · simp [totTo]; omega
  · rintro e w' ⟨rfl, hb⟩
    refine ⟨ret_str (ba_ext ?_), (alloc1 _ _).trans (hb.mono (by simp))⟩
    rw [joinS_data]
    simp

theorem join4 (a b c d : ByteArray) (k : Nat) (w : World) (hk : k = w.heap.size) (h : a.size + b.size + c.size + d.size ≤ 1000000) :
    Calls Tryz.prog 66 #[.slice (some ⟨k, 0, none⟩) 4 4] (w.alloc (.cells #[.string a, .string b, .string c, .string d] 9)) fun e w' => e = .returned (.string (a ++ b ++ c ++ d)) ∧ Below w.heap.size w w' := by
  subst hk
  refine (join_any [a, b, c, d] w.heap.size 4 _ (by simp) (fun i hi => ?_) ?_ (by simp)).mono ?_
  · match i, hi with
    | 0, _ => simp
    | 1, _ => simp
    | 2, _ => simp
    | 3, _ => simp
  · simp [totTo]; omega
  · rintro e w' ⟨rfl, hb⟩
    refine ⟨ret_str (ba_ext ?_), (alloc1 _ _).trans (hb.mono (by simp))⟩
    rw [joinS_data]
    simp

theorem join5 (a b c d g : ByteArray) (k : Nat) (w : World) (hk : k = w.heap.size) (h : a.size + b.size + c.size + d.size + g.size ≤ 1000000) :
    Calls Tryz.prog 66 #[.slice (some ⟨k, 0, none⟩) 5 5] (w.alloc (.cells #[.string a, .string b, .string c, .string d, .string g] 9)) fun e w' => e = .returned (.string (a ++ b ++ c ++ d ++ g)) ∧ Below w.heap.size w w' := by
  subst hk
  refine (join_any [a, b, c, d, g] w.heap.size 5 _ (by simp) (fun i hi => ?_) ?_ (by simp)).mono ?_
  · match i, hi with
    | 0, _ => simp
    | 1, _ => simp
    | 2, _ => simp
    | 3, _ => simp
    | 4, _ => simp
  · simp [totTo]; omega
  · rintro e w' ⟨rfl, hb⟩
    refine ⟨ret_str (ba_ext ?_), (alloc1 _ _).trans (hb.mono (by simp))⟩
    rw [joinS_data]
    simp

set_option maxHeartbeats 400000 in
theorem i_talkText (n : Nd) (w : World) (h1 : n.name.size ≤ 1000) (h2 : n.peer.size ≤ 1000) :
    Calls Tryz.prog 68 #[n.val] w fun e w' => e = .returned (.string (talkT n)) ∧ Below w.heap.size w w' := by
  obtain ⟨op, name, peer, many, sort⟩ := n
  simp only at h1 h2
  unfold Nd.val
  by_cases h5 : op = 5
  · subst h5
    have HT : Hid (talkT ⟨5, name, peer, many, sort⟩ = peer ++ ba [33]) := hide rfl
    go_enter Tryz.func68, Tryz.ntmps68
    go_wp2_with (go_at_call 66; refine (join2 peer (ba [33]) _ _ (by simp) (by rw [sz_ba]; simp only [List.length_cons, List.length_nil]; omega)).mono ?_; rintro e w1 ⟨rfl, hb1⟩; have HB1 := hide hb1; clear hb1)
    go_ret
    exact ⟨ret_str HT.out, (alloc1 _ _).trans (HB1.out.mono (by simp))⟩
  · by_cases h6 : op = 6
    · subst h6
      have HT : Hid (talkT ⟨6, name, peer, many, sort⟩ = peer ++ ba [63]) := hide rfl
      go_enter Tryz.func68, Tryz.ntmps68
      go_wp2_with (go_at_call 66; refine (join2 peer (ba [63]) _ _ (by simp) (by rw [sz_ba]; simp only [List.length_cons, List.length_nil]; omega)).mono ?_; rintro e w1 ⟨rfl, hb1⟩; have HB1 := hide hb1; clear hb1)
      go_ret
      exact ⟨ret_str HT.out, (alloc1 _ _).trans (HB1.out.mono (by simp))⟩
    · have g5 : (op == 5) = false := beq_eq_false_iff_ne.2 h5
      have g6 : (op == 6) = false := beq_eq_false_iff_ne.2 h6
      have HT : Hid (talkT ⟨op, name, peer, many, sort⟩ = name ++ ba [62] ++ peer) := hide (by simp [talkT, g5, g6])
      clear h5 h6
      go_enter Tryz.func68, Tryz.ntmps68
      go_wp2_with (go_at_call 66; refine (join3 name (ba [62]) peer _ _ (by simp) (by rw [sz_ba]; simp only [List.length_cons, List.length_nil]; omega)).mono ?_; rintro e w1 ⟨rfl, hb1⟩; have HB1 := hide hb1; clear hb1)
      go_ret
      exact ⟨ret_str HT.out, (alloc1 _ _).trans (HB1.out.mono (by simp))⟩
end Go.Proofs.YtmjlblbhakppfaaGreatDoor
/- PlanRight and PartRight, of the program and of the specification: one model. -/
namespace Go.Proofs.YtmjlblbhakppfaaGreatDoor
open Go.RowKit

theorem SlAt.lenm {w : World} {B : Nat} {v : Value} {ns : List Nd} (h : SlAt w B v ns) : ns.length ≤ 4294967296 := by
  obtain ⟨ao, cap, _, h1, h2, _⟩ := h
  omega
theorem SlAt.up {w : World} {B B' : Nat} {v : Value} {ns : List Nd} (h : SlAt w B v ns) (hB : B ≤ B') : SlAt w B' v ns := by
  obtain ⟨ao, cap, h1, h2, h3, h4⟩ := h
  refine ⟨ao, cap, h1, h2, h3, fun hne => ?_⟩
  obtain ⟨b, o, e, hlt, hr⟩ := h4 hne
  exact ⟨b, o, e, by omega, hr⟩

theorem fold_len (ts : List ByteArray) : ∀ acc : List ByteArray, (ts.foldl addI acc).length ≤ acc.length + ts.length := by
  induction ts with
  | nil => intro acc; simp
  | cons t ts ih => intro acc; have h1 := ih (addI acc t); have h2 := add_len acc t; simp only [List.foldl_cons, List.length_cons]; omega
theorem rolesI_len (ns : List Nd) : (rolesI ns).length ≤ 2 * ns.length := by
  have : ∀ (l : List Nd) (acc : List ByteArray), (l.foldl stepI acc).length ≤ acc.length + 2 * l.length := by
    intro l
    induction l with
    | nil => intro acc; simp
    | cons n l ih => intro acc; have h1 := ih (stepI acc n); have h2 := fold_len (talkers n) acc; have h3 := talkers_len n; simp only [List.foldl_cons, List.length_cons]; rw [stepI] at h1 ⊢; omega
  have h := this ns []
  simpa [rolesI] using h

set_option maxRecDepth 100000 in
set_option maxHeartbeats 400000 in
theorem row_right (ns : List Nd) (v : Value) (w : World) (fit : ∀ n ∈ ns, n.fit) (hv : SlAt w w.heap.size v ns) :
    Calls Tryz.prog 47 #[v] w fun e w' => e = .returned (.bool (rowB ns)) ∧ Below w.heap.size w w' := by
  have HV := hide hv
  have HF := hide fit
  have HLM := hide hv.lenm
  obtain ⟨ao, cap, rfl, hc, hm, hr⟩ := hv
  have HB := hide (show rowB ns = (decide (ns.length ≤ 40) && ((ahead talkI 10 [] ns).map List.length == some 0 && decide ((rolesI ns).length ≤ 4))) from rfl)
  clear hr fit
  by_cases hl : ns.length ≤ 40
  · cases ha : ahead talkI 10 [] ns with
    | none =>
      have HA := hide ha
      clear ha
      go_enter Tryz.func47, Tryz.ntmps47
      go_wp2_with (go_at_call 80; refine (plan_calls 10 [] ns _ _ _ w.heap.size rfl (fun n hn => (HF.out n hn).ok) (Nat.le_refl _) HV.out rfl).mono ?_; rintro e w1 ⟨⟨v1, rfl, hs1⟩, hb1⟩; rw [HA.out, Option.isSome_none]; have HB1 := hide hb1; clear hs1 hb1)
      go_ret
      refine ⟨ret_bool ?_, HB1.out⟩
      rw [HB.out, HA.out]; simp
    | some r =>
      have HA := hide ha
      clear ha
      cases hrl : ((r.length : Int) == 0)
      · have HRL := hide hrl
        go_enter Tryz.func47, Tryz.ntmps47
        go_wp2_with (go_at_call 80; refine (plan_calls 10 [] ns _ _ _ w.heap.size rfl (fun n hn => (HF.out n hn).ok) (Nat.le_refl _) HV.out rfl).mono ?_; rintro e w1 ⟨⟨v1, rfl, hs1⟩, hb1⟩; rw [HA.out] at hs1 ⊢; rw [Option.isSome_some]; replace hs1 := hs1 r rfl; obtain ⟨ao1, cap1, rfl, hs2⟩ := hs1; have HB1 := hide hb1; clear hs2 hb1)
        go_ret
        refine ⟨ret_bool ?_, HB1.out⟩
        rw [HB.out, HA.out]
        have h0 := HRL.out
        rw [beq_eq_false_iff_ne] at h0
        have h1 : ¬ r = [] := by intro h; rw [h] at h0; simp at h0
        simp [h1]
      · have HRL := hide hrl
        go_enter Tryz.func47, Tryz.ntmps47
        go_wp2_with (first | (go_at_call 80; refine (plan_calls 10 [] ns _ _ _ w.heap.size rfl (fun n hn => (HF.out n hn).ok) (Nat.le_refl _) HV.out rfl).mono ?_; rintro e w1 ⟨⟨v1, rfl, hs1⟩, hb1⟩; rw [HA.out] at hs1 ⊢; rw [Option.isSome_some]; replace hs1 := hs1 r rfl; obtain ⟨ao1, cap1, rfl, hs2⟩ := hs1; have HB1 := hide hb1; clear hs2 hb1) | (go_at_call 44; refine (i_roles clone_calls ns _ _ HF.out ((HV.out.carry HB1.out).up HB1.out.size) hl).mono ?_; rintro e w2 ⟨v2, rfl, ho2, hb2⟩; have HT2 := hide (texts_own ho2 (by have := rolesI_len ns; omega)); obtain ⟨ao2, cap2, rfl, ht2⟩ := HT2.out; have HB2 := hide hb2; clear ht2 hb2 ho2))
        go_ret
        refine ⟨ret_bool ?_, HB1.out.trans (HB2.out.mono HB1.out.size)⟩
        rw [HB.out, HA.out]
        have h0 := HRL.out
        rw [beq_iff_eq] at h0
        have h1 : r = [] := List.length_eq_zero_iff.1 (by omega)
        have e : decide (((rolesI ns).length : Int) ≤ 4) = decide ((rolesI ns).length ≤ 4) := by rw [decide_eq_decide]; omega
        rw [e]
        simp [h1, hl]
  · go_enter Tryz.func47, Tryz.ntmps47
    go_wp2_with fail
    go_ret
    refine ⟨ret_bool ?_, Below.refl _ _⟩
    rw [HB.out, decide_eq_false hl]; rfl

theorem two_nums (w : World) (a b : Int) (t : TypeId) : NumsAt (w.alloc (.cells #[.int .i64 a, .int .i64 b] t)) (.slice (some ⟨w.heap.size, 0, none⟩) 2 2) [a, b] := by
  refine ⟨_, _, rfl, by simp, by simp, fun _ => ⟨_, _, rfl, fun i hi => ?_⟩⟩
  match i, hi with
  | 0, _ => simp
  | 1, _ => simp
theorem one_num (w : World) (a : Int) (t : TypeId) : NumsAt (w.alloc (.cells #[.int .i64 a] t)) (.slice (some ⟨w.heap.size, 0, none⟩) 1 1) [a] := by
  refine ⟨_, _, rfl, by simp, by simp, fun _ => ⟨_, _, rfl, fun i hi => ?_⟩⟩
  match i, hi with
  | 0, _ => simp

set_option maxHeartbeats 400000 in
theorem plan_right (ns : List Nd) (v : Value) (w : World) (fit : ∀ n ∈ ns, n.fit) (hv : SlAt w w.heap.size v ns) :
    Calls Tryz.prog 12 #[v] w fun e w' => e = .returned (.bool (rightB false ns)) ∧ Below w.heap.size w w' := by
  have HV := hide hv
  have HF := hide fit
  have HE := hide (right_eq false ns)
  obtain ⟨ao, cap, rfl, hc, hm, hr⟩ := hv
  obtain ⟨rb, hrb⟩ : ∃ rb, rowB ns = rb := ⟨_, rfl⟩
  have HRB := hide hrb
  clear hr fit hrb
  cases rb
  · go_enter Tryz.func12, Tryz.ntmps12
    go_wp2_with (go_at_call 47; refine (row_right ns _ _ HF.out HV.out).mono ?_; rintro e w1 ⟨rfl, hb1⟩; rw [HRB.out]; have HB1 := hide hb1; clear hb1)
    go_ret
    exact ⟨ret_bool (by rw [← HE.out, HRB.out]; rfl), HB1.out⟩
  · go_enter Tryz.func12, Tryz.ntmps12
    go_wp2_with (first | (go_at_call 47; refine (row_right ns _ _ HF.out HV.out).mono ?_; rintro e w1 ⟨rfl, hb1⟩; rw [HRB.out]; have HB1 := hide hb1; clear hb1) | (go_at_call 48; refine (i_hasAny [5, 6] ns _ _ _ ((HV.out.carry (HB1.out.trans ((alloc1 _ _).mono HB1.out.size))).up (HB1.out.trans ((alloc1 _ _).mono HB1.out.size)).size) (two_nums _ _ _ _)).mono ?_; rintro e w2 ⟨rfl, hb2⟩; have HB2 := hide hb2; clear hb2))
    go_ret
    refine ⟨ret_bool ?_, (HB1.out.trans ((alloc1 _ _).mono HB1.out.size)).trans (HB2.out.mono (HB1.out.trans ((alloc1 _ _).mono HB1.out.size)).size)⟩
    rw [← HE.out, HRB.out, Bool.true_and]
    congr 2
    funext n
    simp [strayB, hasN]

set_option maxHeartbeats 400000 in
theorem part_right (ns : List Nd) (v : Value) (w : World) (fit : ∀ n ∈ ns, n.fit) (hv : SlAt w w.heap.size v ns) :
    Calls Tryz.prog 30 #[v] w fun e w' => e = .returned (.bool (rightB true ns)) ∧ Below w.heap.size w w' := by
  have HV := hide hv
  have HF := hide fit
  have HE := hide (right_eq true ns)
  obtain ⟨ao, cap, rfl, hc, hm, hr⟩ := hv
  obtain ⟨rb, hrb⟩ : ∃ rb, rowB ns = rb := ⟨_, rfl⟩
  have HRB := hide hrb
  clear hr fit hrb
  cases rb
  · go_enter Tryz.func30, Tryz.ntmps30
    go_wp2_with (go_at_call 47; refine (row_right ns _ _ HF.out HV.out).mono ?_; rintro e w1 ⟨rfl, hb1⟩; rw [HRB.out]; have HB1 := hide hb1; clear hb1)
    go_ret
    exact ⟨ret_bool (by rw [← HE.out, HRB.out]; rfl), HB1.out⟩
  · go_enter Tryz.func30, Tryz.ntmps30
    go_wp2_with (first | (go_at_call 47; refine (row_right ns _ _ HF.out HV.out).mono ?_; rintro e w1 ⟨rfl, hb1⟩; rw [HRB.out]; have HB1 := hide hb1; clear hb1) | (go_at_call 48; refine (i_hasAny [3] ns _ _ _ ((HV.out.carry (HB1.out.trans ((alloc1 _ _).mono HB1.out.size))).up (HB1.out.trans ((alloc1 _ _).mono HB1.out.size)).size) (one_num _ _ _)).mono ?_; rintro e w2 ⟨rfl, hb2⟩; have HB2 := hide hb2; clear hb2))
    go_ret
    refine ⟨ret_bool ?_, (HB1.out.trans ((alloc1 _ _).mono HB1.out.size)).trans (HB2.out.mono (HB1.out.trans ((alloc1 _ _).mono HB1.out.size)).size)⟩
    rw [← HE.out, HRB.out, Bool.true_and]
    congr 2
    funext n
    simp [strayB, hasN]

theorem end_len (T : Nd → Bool) (ns : List Nd) : (endPos ns (ahead T 10 [] ns) == (ns.length : Int)) = ((ahead T 10 [] ns).map List.length == some 0) := by
  cases ha : ahead T 10 [] ns with
  | none =>
    have h1 : (endPos ns none == (ns.length : Int)) = false := by
      rw [beq_eq_false_iff_ne]; simp only [endPos]; omega
    rw [h1]; rfl
  | some r =>
    have hs := (ahead_suffix T 10 [] ns r ha).length_le
    have hp : 0 < ns.length := by
      cases ns with
      | nil => cases ha
      | cons => simp
    simp only [endPos, Option.map_some]
    by_cases h0 : r.length = 0
    · have h1 : (((ns.length - r.length : Nat) : Int) == (ns.length : Int)) = true := by rw [beq_iff_eq]; omega
      rw [h1, h0]; rfl
    · have h1 : (((ns.length - r.length : Nat) : Int) == (ns.length : Int)) = false := by rw [beq_eq_false_iff_ne]; omega
      rw [h1]
      symm
      rw [beq_eq_false_iff_ne]
      intro h; injection h with h; exact h0 h
theorem look_new {w : World} {ns : List Nd} {ao : Option Addr} {cap : Nat} (h : SlAt w w.heap.size (.slice ao ns.length cap) ns) (part : Bool) (t : TypeId) : LookAt (w.alloc (.cells #[.slice ao ns.length cap, .bool part] t)) w.heap.size part ns := by
  obtain ⟨ao', cap', e, h1, h2, h3⟩ := h
  obtain ⟨rfl, rfl⟩ : ao = ao' ∧ cap = cap' := by simpa using e
  refine ⟨ao, cap, by simp, by simp, h1, by omega, fun hne => ?_⟩
  obtain ⟨b, o, rfl, hlt, hr⟩ := h3 hne
  exact ⟨b, o, rfl, hr.carry hlt (alloc1 _ _)⟩

set_option maxHeartbeats 400000 in
theorem s_right (part : Bool) (ns : List Nd) (v : Value) (w : World) (fit : ∀ n ∈ ns, n.fit) (hv : SlAt w w.heap.size v ns) :
    Calls Tryz.prog 49 #[v, .bool part] w fun e w' => e = .returned (.bool (rightB part ns)) ∧ Below w.heap.size w w' := by
  have HV := hide hv
  have HF := hide fit
  have HEL := hide (end_len (talkS part) ns)
  have HB := hide (show rightB part ns = (decide (ns.length ≤ 40) && ((ahead (talkS part) 10 [] ns).map List.length == some 0 && decide ((rolesS ns).length ≤ 4))) from rfl)
  obtain ⟨ao, cap, rfl, hc, hm, hr⟩ := hv
  clear hr fit
  by_cases hl : ns.length ≤ 40
  · have HLK := hide (fun t => look_new HV.out part t)
    obtain ⟨ep, hep⟩ : ∃ ep, endPos ns (ahead (talkS part) 10 [] ns) = ep := ⟨_, rfl⟩
    obtain ⟨eb, heb⟩ : ∃ eb, (ep == (ns.length : Int)) = eb := ⟨_, rfl⟩
    have HEP := hide hep
    have HEB := hide heb
    clear hep
    cases eb
    · go_enter Tryz.func49, Tryz.ntmps49
      go_wp2_with (go_at_call 82; refine (end_calls part 10 [] ns 0 _ _ _ _ _ _ rfl trivial (fun n hn => (HF.out n hn).ok) rfl (Nat.zero_le _) rfl rfl (HLK.out _) ⟨none, 0, rfl, Nat.le_refl _, by simp [recsOf], fun h => absurd rfl h⟩ (fun _ => rfl)).mono ?_; rintro e w1 ⟨rfl, hb1⟩; rw [List.drop_zero, HEP.out]; have HB1 : Hid (Below w.heap.size w w1) := hide ((alloc1 _ _).trans (hb1.mono (by simp))); clear hb1)
      go_ret
      refine ⟨ret_bool ?_, HB1.out⟩
      have h := HEL.out
      rw [HEP.out, HEB.out] at h
      rw [HB.out, ← h]; simp
    · go_enter Tryz.func49, Tryz.ntmps49
      go_wp2_with (first | (go_at_call 82; refine (end_calls part 10 [] ns 0 _ _ _ _ _ _ rfl trivial (fun n hn => (HF.out n hn).ok) rfl (Nat.zero_le _) rfl rfl (HLK.out _) ⟨none, 0, rfl, Nat.le_refl _, by simp [recsOf], fun h => absurd rfl h⟩ (fun _ => rfl)).mono ?_; rintro e w1 ⟨rfl, hb1⟩; rw [List.drop_zero, HEP.out]; have HB1 : Hid (Below w.heap.size w w1) := hide ((alloc1 _ _).trans (hb1.mono (by simp))); clear hb1) | (go_at_call 51; refine (s_roles ns _ _ ((HV.out.carry HB1.out).up HB1.out.size) hl).mono ?_; rintro e w2 ⟨v2, rfl, hs2, hb2⟩; obtain ⟨b2, o2, cap2, rfl, hs3⟩ := hs2; have HB2 := hide hb2; clear hs3 hb2))
      go_ret
      refine ⟨ret_bool ?_, HB1.out.trans (HB2.out.mono HB1.out.size)⟩
      have h := HEL.out
      rw [HEP.out, HEB.out] at h
      have e : decide (((rolesS ns).length : Int) ≤ 4) = decide ((rolesS ns).length ≤ 4) := by rw [decide_eq_decide]; omega
      rw [HB.out, ← h, e]; simp [hl]
  · go_enter Tryz.func49, Tryz.ntmps49
    go_wp2_with fail
    go_ret
    refine ⟨ret_bool ?_, Below.refl _ _⟩
    rw [HB.out, decide_eq_false hl]; rfl
end Go.Proofs.YtmjlblbhakppfaaGreatDoor
