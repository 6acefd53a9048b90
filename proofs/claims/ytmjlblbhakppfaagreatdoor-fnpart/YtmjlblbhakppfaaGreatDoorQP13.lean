import Derived.Test.YtmjlblbhakppfaaGreatDoorQP11
import Derived.Test.YtmjlblbhakppfaaGreatDoorQP00
import Derived.Test.YtmjlblbhakppfaaGreatDoorQP07
import Derived.Test.YtmjlblbhakppfaaGreatDoorQP09
import Derived.Test.YtmjlblbhakppfaaGreatDoorQP03
namespace Go.Proofs.YtmjlblbhakppfaaGreatDoor
open Go.RowKit

theorem ba_ext {a b : ByteArray} (h : a.data.toList = b.data.toList) : a = b := by
  apply ByteArray.ext
  exact Array.ext' h
theorem app_data (a b : ByteArray) : (a ++ b).data.toList = a.data.toList ++ b.data.toList := by
  rw [ByteArray.data_append, Array.toList_append]
theorem joinS_data (ss : List ByteArray) : (joinS ss).data.toList = ss.flatMap (fun s => s.data.toList) := by
  simp [joinS, flatTo]

theorem join2 (a b : ByteArray) (k : Nat) (w : World) (hk : k = w.heap.size) (h : a.size + b.size ≤ 1000000) :
    Calls Tryz.prog 66 #[.slice (some ⟨k, 0, none⟩) 2 2] (w.alloc (.cells #[.string a, .string b] 9)) fun e w' => e = .returned (.string (a ++ b)) ∧ Below w.heap.size w w' := by
  subst hk
  refine (join_any [a, b] w.heap.size 2 _ (by simp) (fun i hi => ?_) ?_ (by simp)).mono ?_
  · match i, hi with
    | 0, _ => simp
    | 1, _ => simp
  · simp [totTo]; omega
  · rintro e w' ⟨rfl, hb⟩
    refine ⟨ret_str (ba_ext ?_), (alloc1 _ _).trans (hb.mono (by simp))⟩
    rw [joinS_data]
    simp

theorem join3 (a b c : ByteArray) (k : Nat) (w : World) (hk : k = w.heap.size) (h : a.size + b.size + c.size ≤ 1000000) :
    Calls Tryz.prog 66 #[.slice (some ⟨k, 0, none⟩) 3 3] (w.alloc (.cells #[.string a, .string b, .string c] 9)) fun e w' => e = .returned (.string (a ++ b ++ c)) ∧ Below w.heap.size w w' := by
  subst hk
  refine (join_any [a, b, c] w.heap.size 3 _ (by simp) (fun i hi => ?_) ?_ (by simp)).mono ?_
  · match i, hi with
    | 0, _ => simp
    | 1, _ => simp
    | 2, _ => simp
  · simp [totTo]; omega
  · rintro e w' ⟨rfl, hb⟩
    refine ⟨ret_str (ba_ext ?_), (alloc1 _ _).trans (hb.mono (by simp))⟩
    rw [joinS_data]
    simp

theorem join4 (a b c d : ByteArray) (k : Nat) (w : World) (hk : k = w.heap.size) (h : a.size + b.size + c.size + d.size ≤ 1000000) :
    Calls Tryz.prog 66 #[.slice (some ⟨k, 0, none⟩) 4 4] (w.alloc (.cells #[.string a, .string b, .string c, .string d] 9)) fun e w' => e = .returned (.string (a ++ b ++ c ++ d)) ∧ Below w.heap.size w w' := by
  subst hk
  refine (join_any [a, b, c, d] w.heap.size 4 _ (by simp) (fun i hi => ?_) ?_ (by simp)).mono ?_
  · match i, hi with
    | 0, _ => simp
    | 1, _ => simp
    | 2, _ => simp
    | 3, _ => simp
  · simp [totTo]; omega
  · rintro e w' ⟨rfl, hb⟩
    refine ⟨ret_str (ba_ext ?_), (alloc1 _ _).trans (hb.mono (by simp))⟩
    rw [joinS_data]
    simp

theorem join5 (a b c d g : ByteArray) (k : Nat) (w : World) (hk : k = w.heap.size) (h : a.size + b.size + c.size + d.size + g.size ≤ 1000000) :
    Calls Tryz.prog 66 #[.slice (some ⟨k, 0, none⟩) 5 5] (w.alloc (.cells #[.string a, .string b, .string c, .string d, .string g] 9)) fun e w' => e = .returned (.string (a ++ b ++ c ++ d ++ g)) ∧ Below w.heap.size w w' := by
  subst hk
  refine (join_any [a, b, c, d, g] w.heap.size 5 _ (by simp) (fun i hi => ?_) ?_ (by simp)).mono ?_
  · match i, hi with
    | 0, _ => simp
    | 1, _ => simp
    | 2, _ => simp
    | 3, _ => simp
    | 4, _ => simp
  · simp [totTo]; omega
  · rintro e w' ⟨rfl, hb⟩
    refine ⟨ret_str (ba_ext ?_), (alloc1 _ _).trans (hb.mono (by simp))⟩
    rw [joinS_data]
    simp

set_option maxHeartbeats 400000 in
theorem i_talkText (n : Nd) (w : World) (h1 : n.name.size ≤ 1000) (h2 : n.peer.size ≤ 1000) :
    Calls Tryz.prog 68 #[n.val] w fun e w' => e = .returned (.string (talkT n)) ∧ Below w.heap.size w w' := by
  obtain ⟨op, name, peer, many, sort⟩ := n
  simp only at h1 h2
  unfold Nd.val
  by_cases h5 : op = 5
  · subst h5
    have HT : Hid (talkT ⟨5, name, peer, many, sort⟩ = peer ++ ba [33]) := hide rfl
    go_enter Tryz.func68, Tryz.ntmps68
    go_wp2_with (go_at_call 66; refine (join2 peer (ba [33]) _ _ (by simp) (by rw [sz_ba]; simp only [List.length_cons, List.length_nil]; omega)).mono ?_; rintro e w1 ⟨rfl, hb1⟩; have HB1 := hide hb1; clear hb1)
    go_ret
    exact ⟨ret_str HT.out, (alloc1 _ _).trans (HB1.out.mono (by simp))⟩
  · by_cases h6 : op = 6
    · subst h6
      have HT : Hid (talkT ⟨6, name, peer, many, sort⟩ = peer ++ ba [63]) := hide rfl
      go_enter Tryz.func68, Tryz.ntmps68
      go_wp2_with (go_at_call 66; refine (join2 peer (ba [63]) _ _ (by simp) (by rw [sz_ba]; simp only [List.length_cons, List.length_nil]; omega)).mono ?_; rintro e w1 ⟨rfl, hb1⟩; have HB1 := hide hb1; clear hb1)
      go_ret
      exact ⟨ret_str HT.out, (alloc1 _ _).trans (HB1.out.mono (by simp))⟩
    · have g5 : (op == 5) = false := beq_eq_false_iff_ne.2 h5
      have g6 : (op == 6) = false := beq_eq_false_iff_ne.2 h6
      have HT : Hid (talkT ⟨op, name, peer, many, sort⟩ = name ++ ba [62] ++ peer) := hide (by simp [talkT, g5, g6])
      clear h5 h6
      go_enter Tryz.func68, Tryz.ntmps68
      go_wp2_with (go_at_call 66; refine (join3 name (ba [62]) peer _ _ (by simp) (by rw [sz_ba]; simp only [List.length_cons, List.length_nil]; omega)).mono ?_; rintro e w1 ⟨rfl, hb1⟩; have HB1 := hide hb1; clear hb1)
      go_ret
      exact ⟨ret_str HT.out, (alloc1 _ _).trans (HB1.out.mono (by simp))⟩
end Go.Proofs.YtmjlblbhakppfaaGreatDoor
namespace Go.Proofs.YtmjlblbhakppfaaGreatDoor
open Go.RowKit

theorem SlAt.lenm {w : World} {B : Nat} {v : Value} {ns : List Nd} (h : SlAt w B v ns) : ns.length ≤ 4294967296 := by
  obtain ⟨ao, cap, _, h1, h2, _⟩ := h
  omega
theorem SlAt.up {w : World} {B B' : Nat} {v : Value} {ns : List Nd} (h : SlAt w B v ns) (hB : B ≤ B') : SlAt w B' v ns := by
  obtain ⟨ao, cap, h1, h2, h3, h4⟩ := h
  refine ⟨ao, cap, h1, h2, h3, fun hne => ?_⟩
  obtain ⟨b, o, e, hlt, hr⟩ := h4 hne
  exact ⟨b, o, e, by omega, hr⟩

theorem fold_len (ts : List ByteArray) : ∀ acc : List ByteArray, (ts.foldl addI acc).length ≤ acc.length + ts.length := by
  induction ts with
  | nil => intro acc; simp
  | cons t ts ih => intro acc; have h1 := ih (addI acc t); have h2 := add_len acc t; simp only [List.foldl_cons, List.length_cons]; omega
theorem rolesI_len (ns : List Nd) : (rolesI ns).length ≤ 2 * ns.length := by
  have : ∀ (l : List Nd) (acc : List ByteArray), (l.foldl stepI acc).length ≤ acc.length + 2 * l.length := by
    intro l
    induction l with
    | nil => intro acc; simp
    | cons n l ih => intro acc; have h1 := ih (stepI acc n); have h2 := fold_len (talkers n) acc; have h3 := talkers_len n; simp only [List.foldl_cons, List.length_cons]; rw [stepI] at h1 ⊢; omega
  have h := this ns []
  simpa [rolesI] using h

set_option maxRecDepth 100000 in
set_option maxHeartbeats 400000 in
theorem row_right (ns : List Nd) (v : Value) (w : World) (fit : ∀ n ∈ ns, n.fit) (hv : SlAt w w.heap.size v ns) :
    Calls Tryz.prog 47 #[v] w fun e w' => e = .returned (.bool (rowB ns)) ∧ Below w.heap.size w w' := by
  have HV := hide hv
  have HF := hide fit
  have HLM := hide hv.lenm
  obtain ⟨ao, cap, rfl, hc, hm, hr⟩ := hv
  have HB := hide (show rowB ns = (decide (ns.length ≤ 40) && ((ahead talkI 10 [] ns).map List.length == some 0 && decide ((rolesI ns).length ≤ 4))) from rfl)
  clear hr fit
  by_cases hl : ns.length ≤ 40
  · cases ha : ahead talkI 10 [] ns with
    | none =>
      have HA := hide ha
      clear ha
      go_enter Tryz.func47, Tryz.ntmps47
      go_wp2_with (go_at_call 80; refine (plan_calls 10 [] ns _ _ _ w.heap.size rfl (fun n hn => (HF.out n hn).ok) (Nat.le_refl _) HV.out rfl).mono ?_; rintro e w1 ⟨⟨v1, rfl, hs1⟩, hb1⟩; rw [HA.out, Option.isSome_none]; have HB1 := hide hb1; clear hs1 hb1)
      go_ret
      refine ⟨ret_bool ?_, HB1.out⟩
      rw [HB.out, HA.out]; simp
    | some r =>
      have HA := hide ha
      clear ha
      cases hrl : ((r.length : Int) == 0)
      · have HRL := hide hrl
        go_enter Tryz.func47, Tryz.ntmps47
        go_wp2_with (go_at_call 80; refine (plan_calls 10 [] ns _ _ _ w.heap.size rfl (fun n hn => (HF.out n hn).ok) (Nat.le_refl _) HV.out rfl).mono ?_; rintro e w1 ⟨⟨v1, rfl, hs1⟩, hb1⟩; rw [HA.out] at hs1 ⊢; rw [Option.isSome_some]; replace hs1 := hs1 r rfl; obtain ⟨ao1, cap1, rfl, hs2⟩ := hs1; have HB1 := hide hb1; clear hs2 hb1)
        go_ret
        refine ⟨ret_bool ?_, HB1.out⟩
        rw [HB.out, HA.out]
        have h0 := HRL.out
        rw [beq_eq_false_iff_ne] at h0
        have h1 : ¬ r = [] := by intro h; rw [h] at h0; simp at h0
        simp [h1]
      · have HRL := hide hrl
        go_enter Tryz.func47, Tryz.ntmps47
        go_wp2_with (first | (go_at_call 80; refine (plan_calls 10 [] ns _ _ _ w.heap.size rfl (fun n hn => (HF.out n hn).ok) (Nat.le_refl _) HV.out rfl).mono ?_; rintro e w1 ⟨⟨v1, rfl, hs1⟩, hb1⟩; rw [HA.out] at hs1 ⊢; rw [Option.isSome_some]; replace hs1 := hs1 r rfl; obtain ⟨ao1, cap1, rfl, hs2⟩ := hs1; have HB1 := hide hb1; clear hs2 hb1) | (go_at_call 44; refine (i_roles clone_calls ns _ _ HF.out ((HV.out.carry HB1.out).up HB1.out.size) hl).mono ?_; rintro e w2 ⟨v2, rfl, ho2, hb2⟩; have HT2 := hide (texts_own ho2 (by have := rolesI_len ns; omega)); obtain ⟨ao2, cap2, rfl, ht2⟩ := HT2.out; have HB2 := hide hb2; clear ht2 hb2 ho2))
        go_ret
        refine ⟨ret_bool ?_, HB1.out.trans (HB2.out.mono HB1.out.size)⟩
        rw [HB.out, HA.out]
        have h0 := HRL.out
        rw [beq_iff_eq] at h0
        have h1 : r = [] := List.length_eq_zero_iff.1 (by omega)
        have e : decide (((rolesI ns).length : Int) ≤ 4) = decide ((rolesI ns).length ≤ 4) := by rw [decide_eq_decide]; omega
        rw [e]
        simp [h1, hl]
  · go_enter Tryz.func47, Tryz.ntmps47
    go_wp2_with fail
    go_ret
    refine ⟨ret_bool ?_, Below.refl _ _⟩
    rw [HB.out, decide_eq_false hl]; rfl

theorem two_nums (w : World) (a b : Int) (t : TypeId) : NumsAt (w.alloc (.cells #[.int .i64 a, .int .i64 b] t)) (.slice (some ⟨w.heap.size, 0, none⟩) 2 2) [a, b] := by
  refine ⟨_, _, rfl, by simp, by simp, fun _ => ⟨_, _, rfl, fun i hi => ?_⟩⟩
  match i, hi with
  | 0, _ => simp
  | 1, _ => simp
theorem one_num (w : World) (a : Int) (t : TypeId) : NumsAt (w.alloc (.cells #[.int .i64 a] t)) (.slice (some ⟨w.heap.size, 0, none⟩) 1 1) [a] := by
  refine ⟨_, _, rfl, by simp, by simp, fun _ => ⟨_, _, rfl, fun i hi => ?_⟩⟩
  match i, hi with
  | 0, _ => simp

set_option maxHeartbeats 400000 in
theorem plan_right (ns : List Nd) (v : Value) (w : World) (fit : ∀ n ∈ ns, n.fit) (hv : SlAt w w.heap.size v ns) :
    Calls Tryz.prog 12 #[v] w fun e w' => e = .returned (.bool (rightB false ns)) ∧ Below w.heap.size w w' := by
  have HV := hide hv
  have HF := hide fit
  have HE := hide (right_eq false ns)
  obtain ⟨ao, cap, rfl, hc, hm, hr⟩ := hv
  obtain ⟨rb, hrb⟩ : ∃ rb, rowB ns = rb := ⟨_, rfl⟩
  have HRB := hide hrb
  clear hr fit hrb
  cases rb
  · go_enter Tryz.func12, Tryz.ntmps12
    go_wp2_with (go_at_call 47; refine (row_right ns _ _ HF.out HV.out).mono ?_; rintro e w1 ⟨rfl, hb1⟩; rw [HRB.out]; have HB1 := hide hb1; clear hb1)
    go_ret
    exact ⟨ret_bool (by rw [← HE.out, HRB.out]; rfl), HB1.out⟩
  · go_enter Tryz.func12, Tryz.ntmps12
    go_wp2_with (first | (go_at_call 47; refine (row_right ns _ _ HF.out HV.out).mono ?_; rintro e w1 ⟨rfl, hb1⟩; rw [HRB.out]; have HB1 := hide hb1; clear hb1) | (go_at_call 48; refine (i_hasAny [5, 6] ns _ _ _ ((HV.out.carry (HB1.out.trans ((alloc1 _ _).mono HB1.out.size))).up (HB1.out.trans ((alloc1 _ _).mono HB1.out.size)).size) (two_nums _ _ _ _)).mono ?_; rintro e w2 ⟨rfl, hb2⟩; have HB2 := hide hb2; clear hb2))
    go_ret
    refine ⟨ret_bool ?_, (HB1.out.trans ((alloc1 _ _).mono HB1.out.size)).trans (HB2.out.mono (HB1.out.trans ((alloc1 _ _).mono HB1.out.size)).size)⟩
    rw [← HE.out, HRB.out, Bool.true_and]
    congr 2
    funext n
    simp [strayB, hasN]

set_option maxHeartbeats 400000 in
theorem part_right (ns : List Nd) (v : Value) (w : World) (fit : ∀ n ∈ ns, n.fit) (hv : SlAt w w.heap.size v ns) :
    Calls Tryz.prog 30 #[v] w fun e w' => e = .returned (.bool (rightB true ns)) ∧ Below w.heap.size w w' := by
  have HV := hide hv
  have HF := hide fit
  have HE := hide (right_eq true ns)
  obtain ⟨ao, cap, rfl, hc, hm, hr⟩ := hv
  obtain ⟨rb, hrb⟩ : ∃ rb, rowB ns = rb := ⟨_, rfl⟩
  have HRB := hide hrb
  clear hr fit hrb
  cases rb
  · go_enter Tryz.func30, Tryz.ntmps30
    go_wp2_with (go_at_call 47; refine (row_right ns _ _ HF.out HV.out).mono ?_; rintro e w1 ⟨rfl, hb1⟩; rw [HRB.out]; have HB1 := hide hb1; clear hb1)
    go_ret
    exact ⟨ret_bool (by rw [← HE.out, HRB.out]; rfl), HB1.out⟩
  · go_enter Tryz.func30, Tryz.ntmps30
    go_wp2_with (first | (go_at_call 47; refine (row_right ns _ _ HF.out HV.out).mono ?_; rintro e w1 ⟨rfl, hb1⟩; rw [HRB.out]; have HB1 := hide hb1; clear hb1) | (go_at_call 48; refine (i_hasAny [3] ns _ _ _ ((HV.out.carry (HB1.out.trans ((alloc1 _ _).mono HB1.out.size))).up (HB1.out.trans ((alloc1 _ _).mono HB1.out.size)).size) (one_num _ _ _)).mono ?_; rintro e w2 ⟨rfl, hb2⟩; have HB2 := hide hb2; clear hb2))
    go_ret
    refine ⟨ret_bool ?_, (HB1.out.trans ((alloc1 _ _).mono HB1.out.size)).trans (HB2.out.mono (HB1.out.trans ((alloc1 _ _).mono HB1.out.size)).size)⟩
    rw [← HE.out, HRB.out, Bool.true_and]
    congr 2
    funext n
    simp [strayB, hasN]

theorem end_len (T : Nd → Bool) (ns : List Nd) : (endPos ns (ahead T 10 [] ns) == (ns.length : Int)) = ((ahead T 10 [] ns).map List.length == some 0) := by
  cases ha : ahead T 10 [] ns with
  | none =>
    have h1 : (endPos ns none == (ns.length : Int)) = false := by
      rw [beq_eq_false_iff_ne]; simp only [endPos]; omega
    rw [h1]; rfl
  | some r =>
    have hs := (ahead_suffix T 10 [] ns r ha).length_le
    have hp : 0 < ns.length := by
      cases ns with
      | nil => cases ha
      | cons => simp
    simp only [endPos, Option.map_some]
    by_cases h0 : r.length = 0
    · have h1 : (((ns.length - r.length : Nat) : Int) == (ns.length : Int)) = true := by rw [beq_iff_eq]; omega
      rw [h1, h0]; rfl
    · have h1 : (((ns.length - r.length : Nat) : Int) == (ns.length : Int)) = false := by rw [beq_eq_false_iff_ne]; omega
      rw [h1]
      symm
      rw [beq_eq_false_iff_ne]
      intro h; injection h with h; exact h0 h
theorem look_new {w : World} {ns : List Nd} {ao : Option Addr} {cap : Nat} (h : SlAt w w.heap.size (.slice ao ns.length cap) ns) (part : Bool) (t : TypeId) : LookAt (w.alloc (.cells #[.slice ao ns.length cap, .bool part] t)) w.heap.size part ns := by
  obtain ⟨ao', cap', e, h1, h2, h3⟩ := h
  obtain ⟨rfl, rfl⟩ : ao = ao' ∧ cap = cap' := by simpa using e
  refine ⟨ao, cap, by simp, by simp, h1, by omega, fun hne => ?_⟩
  obtain ⟨b, o, rfl, hlt, hr⟩ := h3 hne
  exact ⟨b, o, rfl, hr.carry hlt (alloc1 _ _)⟩

set_option maxHeartbeats 400000 in
theorem s_right (part : Bool) (ns : List Nd) (v : Value) (w : World) (fit : ∀ n ∈ ns, n.fit) (hv : SlAt w w.heap.size v ns) :
    Calls Tryz.prog 49 #[v, .bool part] w fun e w' => e = .returned (.bool (rightB part ns)) ∧ Below w.heap.size w w' := by
  have HV := hide hv
  have HF := hide fit
  have HEL := hide (end_len (talkS part) ns)
  have HB := hide (show rightB part ns = (decide (ns.length ≤ 40) && ((ahead (talkS part) 10 [] ns).map List.length == some 0 && decide ((rolesS ns).length ≤ 4))) from rfl)
  obtain ⟨ao, cap, rfl, hc, hm, hr⟩ := hv
  clear hr fit
  by_cases hl : ns.length ≤ 40
  · have HLK := hide (fun t => look_new HV.out part t)
    obtain ⟨ep, hep⟩ : ∃ ep, endPos ns (ahead (talkS part) 10 [] ns) = ep := ⟨_, rfl⟩
    obtain ⟨eb, heb⟩ : ∃ eb, (ep == (ns.length : Int)) = eb := ⟨_, rfl⟩
    have HEP := hide hep
    have HEB := hide heb
    clear hep
    cases eb
    · go_enter Tryz.func49, Tryz.ntmps49
      go_wp2_with (go_at_call 82; refine (end_calls part 10 [] ns 0 _ _ _ _ _ _ rfl trivial (fun n hn => (HF.out n hn).ok) rfl (Nat.zero_le _) rfl rfl (HLK.out _) ⟨none, 0, rfl, Nat.le_refl _, by simp [recsOf], fun h => absurd rfl h⟩ (fun _ => rfl)).mono ?_; rintro e w1 ⟨rfl, hb1⟩; rw [List.drop_zero, HEP.out]; have HB1 : Hid (Below w.heap.size w w1) := hide ((alloc1 _ _).trans (hb1.mono (by simp))); clear hb1)
      go_ret
      refine ⟨ret_bool ?_, HB1.out⟩
      have h := HEL.out
      rw [HEP.out, HEB.out] at h
      rw [HB.out, ← h]; simp
    · go_enter Tryz.func49, Tryz.ntmps49
      go_wp2_with (first | (go_at_call 82; refine (end_calls part 10 [] ns 0 _ _ _ _ _ _ rfl trivial (fun n hn => (HF.out n hn).ok) rfl (Nat.zero_le _) rfl rfl (HLK.out _) ⟨none, 0, rfl, Nat.le_refl _, by simp [recsOf], fun h => absurd rfl h⟩ (fun _ => rfl)).mono ?_; rintro e w1 ⟨rfl, hb1⟩; rw [List.drop_zero, HEP.out]; have HB1 : Hid (Below w.heap.size w w1) := hide ((alloc1 _ _).trans (hb1.mono (by simp))); clear hb1) | (go_at_call 51; refine (s_roles ns _ _ ((HV.out.carry HB1.out).up HB1.out.size) hl).mono ?_; rintro e w2 ⟨v2, rfl, hs2, hb2⟩; obtain ⟨b2, o2, cap2, rfl, hs3⟩ := hs2; have HB2 := hide hb2; clear hs3 hb2))
      go_ret
      refine ⟨ret_bool ?_, HB1.out.trans (HB2.out.mono HB1.out.size)⟩
      have h := HEL.out
      rw [HEP.out, HEB.out] at h
      have e : decide (((rolesS ns).length : Int) ≤ 4) = decide ((rolesS ns).length ≤ 4) := by rw [decide_eq_decide]; omega
      rw [HB.out, ← h, e]; simp [hl]
  · go_enter Tryz.func49, Tryz.ntmps49
    go_wp2_with fail
    go_ret
    refine ⟨ret_bool ?_, Below.refl _ _⟩
    rw [HB.out, decide_eq_false hl]; rfl
end Go.Proofs.YtmjlblbhakppfaaGreatDoor
namespace Go.Proofs.YtmjlblbhakppfaaGreatDoor
open Go.RowKit

def leafAt : Option ByteArray → Value → Prop
  | none, v => v = .iface 118 (.agg #[])
  | some x, v => v = .iface 109 (.agg #[.string x])
def talkV (t : Tk) (sl : Value) : Value := if t.op == 3 then .iface 116 (.agg #[.string t.a, .string t.b, sl]) else if t.op == 5 then .iface 151 (.agg #[.string t.b, sl]) else .iface 152 (.agg #[.string t.b, sl])
def BrSl {α : Type} (pa : α → Value → Prop) (w : World) (S : Nat → Prop) (v : Value) (l : List (Br α)) : Prop := ∃ ao cap, v = .slice ao l.length cap ∧ l.length ≤ cap ∧ cap ≤ maxLen ∧ (l ≠ [] → ∃ g o, ao = some ⟨g, o, none⟩ ∧ S g ∧ ∀ (i : Nat) (b : Br α), l[i]? = some b → w.cell? ⟨g, o + i * 3, none⟩ = some (.string b.l) ∧ w.cell? ⟨g, o + i * 3 + 1, none⟩ = some (.int .i64 b.s) ∧ ∃ u, w.cell? ⟨g, o + i * 3 + 2, none⟩ = some u ∧ pa b.p u)
def PcAt (w : World) (S : Nat → Prop) : (n : Nat) → Pn n → Value → Prop
  | 0, x, v => leafAt x v
  | n + 1, p, v => p.by (fun x => leafAt x v) (fun x q => ∃ u, v = .iface 111 (.agg #[.string x, u]) ∧ PcAt w S n q u) (fun t l => ∃ sl, v = talkV t sl ∧ BrSl (PcAt w S n) w S sl l)
theorem BrSl.carry {α : Type} {pa pa' : α → Value → Prop} {w w' : World} {S S' : Nat → Prop} {v : Value} {l : List (Br α)} (h : BrSl pa w S v l) (hb : ∀ g, S g → w'.heap[g]? = w.heap[g]?) (hB : ∀ g, S g → S' g) (hp : ∀ b ∈ l, ∀ u, pa b.p u → pa' b.p u) : BrSl pa' w' S' v l := by
  obtain ⟨ao, cap, e, h1, h2, h3⟩ := h
  refine ⟨ao, cap, e, h1, h2, fun hne => ?_⟩
  obtain ⟨g, o, e1, e2, e3⟩ := h3 hne
  refine ⟨g, o, e1, hB g e2, fun i b hi => ?_⟩
  obtain ⟨k1, k2, u, k3, k4⟩ := e3 i b hi
  exact ⟨(World.cell?_of_block (a := ⟨g, o + i * 3, none⟩) (hb g e2)).trans k1, (World.cell?_of_block (a := ⟨g, o + i * 3 + 1, none⟩) (hb g e2)).trans k2, u, (World.cell?_of_block (a := ⟨g, o + i * 3 + 2, none⟩) (hb g e2)).trans k3, hp b (List.mem_of_getElem? hi) u k4⟩
theorem PcAt.carry {w w' : World} {S S' : Nat → Prop} (hb : ∀ g, S g → w'.heap[g]? = w.heap[g]?) (hB : ∀ g, S g → S' g) : ∀ (n : Nat) (p : Pn n) (v : Value), PcAt w S n p v → PcAt w' S' n p v := by
  intro n
  induction n with
  | zero => intro p v h; exact h
  | succ n ih =>
    intro p
    refine Pn.cases (P := fun p => ∀ v, PcAt w S (n + 1) p v → PcAt w' S' (n + 1) p v) (fun x v h => h) (fun x q v h => ?_) (fun t l v h => ?_) p
    · obtain ⟨u, e, h⟩ := h
      exact ⟨u, e, ih q u h⟩
    · obtain ⟨sl, e, h⟩ := h
      exact ⟨sl, e, h.carry hb hB (fun b _ u hu => ih b.p u hu)⟩
theorem up_at {w : World} {S : Nat → Prop} : ∀ (n : Nat) (p : Pn n) (v : Value), PcAt w S n p v → PcAt w S (n + 1) (upN n p) v := by
  intro n
  induction n with
  | zero => intro p v h; exact h
  | succ n ih =>
    intro p
    refine Pn.cases (P := fun p => ∀ v, PcAt w S (n + 1) p v → PcAt w S (n + 2) (upN (n + 1) p) v) (fun x v h => h) (fun x q v h => ?_) (fun t l v h => ?_) p
    · obtain ⟨u, e, h⟩ := h
      exact ⟨u, e, ih q u h⟩
    · obtain ⟨sl, e, ao, cap, e2, h1, h2, h3⟩ := h
      refine ⟨sl, e, ao, cap, by rw [List.length_map]; exact e2, by rw [List.length_map]; exact h1, h2, fun hne => ?_⟩
      obtain ⟨g, o, e1, e2, e3⟩ := h3 (fun h => hne (by rw [h]; rfl))
      refine ⟨g, o, e1, e2, fun i b hi => ?_⟩
      rw [List.getElem?_map] at hi
      cases hx : l[i]? with
      | none => rw [hx] at hi; cases hi
      | some x =>
        rw [hx] at hi
        simp only [Option.map_some, Option.some.injEq] at hi
        subst hi
        obtain ⟨k1, k2, u, k3, k4⟩ := e3 i x hx
        exact ⟨k1, k2, u, k3, ih x.p u k4⟩
theorem leaf_shape {x : Option ByteArray} {v : Value} (h : leafAt x v) : ∃ t a, v = .iface t (.agg a) := by
  cases x with
  | none => exact ⟨_, _, h⟩
  | some x => exact ⟨_, _, h⟩
theorem talk_shape (t : Tk) (sl : Value) : ∃ T a, talkV t sl = .iface T (.agg a) := by
  unfold talkV
  split
  · exact ⟨_, _, rfl⟩
  · split
    · exact ⟨_, _, rfl⟩
    · exact ⟨_, _, rfl⟩
theorem PcAt.shape {w : World} {S : Nat → Prop} : ∀ {n : Nat} {p : Pn n} {v : Value}, PcAt w S n p v → ∃ t a, v = .iface t (.agg a)
  | 0, p, v, h => leaf_shape h
  | n + 1, p, v, h => by
    revert h
    refine Pn.cases (P := fun p => PcAt w S (n + 1) p v → ∃ t a, v = .iface t (.agg a)) (fun x h => leaf_shape h) (fun x q h => ?_) (fun t l h => ?_) p
    · obtain ⟨u, e, _⟩ := h
      exact ⟨_, _, e⟩
    · obtain ⟨sl, e, _⟩ := h
      obtain ⟨T, a, e2⟩ := talk_shape t sl
      exact ⟨T, a, e.trans e2⟩
theorem PcAt.one {w : World} {S : Nat → Prop} {n : Nat} {p : Pn n} {v : Value} (h : PcAt w S n p v) : v.oneCell' = true := by
  obtain ⟨t, a, rfl⟩ := h.shape
  rfl
structure BV (n : Nat) where
  b : Br (Pn n)
  u : Value
def BV.cells {n : Nat} (x : BV n) : List Value := [.string x.b.l, .int .i64 x.b.s, x.u]
theorem BV.cells_len {n : Nat} (x : BV n) : x.cells.length = 3 := rfl
def lo (n : Nat) : Nat → Prop := fun b => b < n
def btw (a n : Nat) : Nat → Prop := fun b => a ≤ b ∧ b < n
def off (a n : Nat) (v : Value) : Nat → Prop := fun b => (a ≤ b ∧ b < n) ∧ b ∉ vblocks v
section
variable {n : Nat}
theorem PcAt.on {w w' : World} {p : Pn n} {u : Value} (h : PcAt w (lo w.heap.size) n p u) (hb : Below w.heap.size w w') : PcAt w' (lo w'.heap.size) n p u := PcAt.carry (fun g hg => hb.block g hg) (fun _ hg => Nat.lt_of_lt_of_le hg hb.size) n p u h
theorem PcAt.up {w : World} {S : Nat → Prop} {p : Pn n} {u : Value} (h : PcAt w S n p u) {S' : Nat → Prop} (hS : ∀ g, S g → S' g) : PcAt w S' n p u := PcAt.carry (fun _ _ => rfl) hS n p u h
def BrS (w : World) (S : Nat → Prop) (v : Value) (l : List (Br (Pn n))) : Prop := BrSl (PcAt w S n) w S v l
theorem BrS.carry {w w' : World} {S S' : Nat → Prop} {v : Value} {l : List (Br (Pn n))} (h : BrS w S v l) (hb : ∀ g, S g → w'.heap[g]? = w.heap[g]?) (hB : ∀ g, S g → S' g) : BrS w' S' v l := BrSl.carry h hb hB (fun b _ u hu => PcAt.carry hb hB n b.p u hu)
theorem BrS.on {w w' : World} {v : Value} {l : List (Br (Pn n))} (h : BrS w (lo w.heap.size) v l) (hb : Below w.heap.size w w') : BrS w' (lo w'.heap.size) v l := h.carry (fun g hg => hb.block g hg) (fun _ hg => Nat.lt_of_lt_of_le hg hb.size)
structure BrOwn (w : World) (base : Nat) (v : Value) (l : List (BV n)) : Prop where
  own : w.ownsRow base 149 3 v l.length (l.flatMap BV.cells)
  pcs : ∀ x ∈ l, PcAt w (off base w.heap.size v) n x.b.p x.u
theorem BrOwn.keep {w w' : World} {base : Nat} {v : Value} {l : List (BV n)} (h : BrOwn w base v l) (hb : Below w.heap.size w w') : BrOwn w' base v l :=
  ⟨owns_below h.own hb, fun x hx => PcAt.carry (fun g hg => hb.block g hg.1.2) (fun _ hg => ⟨⟨hg.1.1, Nat.lt_of_lt_of_le hg.1.2 hb.size⟩, hg.2⟩) _ _ _ (h.pcs x hx)⟩
theorem BrOwn.nil (w : World) (base : Nat) : BrOwn w base (.slice none 0 0) ([] : List (BV n)) := ⟨owns_nil _ _ _ _, fun x hx => by cases hx⟩
theorem BrOwn.sl {w : World} {base : Nat} {v : Value} {l : List (BV n)} (h : BrOwn w base v l) : BrS w (btw base w.heap.size) v (l.map BV.b) := by
  rcases h.own.2 with ⟨rfl, h0⟩ | ⟨g, cap, cur, rfl, hg, hblk, hc, hm, _⟩
  · have e : l = [] := List.length_eq_zero_iff.1 h0
    subst e
    exact ⟨none, 0, rfl, Nat.le_refl _, Nat.zero_le _, fun hne => absurd rfl hne⟩
  · refine ⟨some ⟨g, 0, none⟩, cap, by rw [List.length_map], by rw [List.length_map]; exact hc, hm, fun _ => ⟨g, 0, rfl, ⟨hg, (Array.getElem?_eq_some_iff.1 hblk).1⟩, fun i b hb => ?_⟩⟩
    rw [List.getElem?_map] at hb
    cases hx : l[i]? with
    | none => rw [hx] at hb; cases hb
    | some x =>
      rw [hx] at hb
      simp only [Option.map_some, Option.some.injEq] at hb
      subst hb
      obtain ⟨hlt, hxe⟩ := List.getElem?_eq_some_iff.1 hx
      have e := fun j (hj : j < 3) (y : Value) (hy : (x.cells)[j]? = some y) => owns_cell h.own rfl (i * 3 + j) y ((flat_get BV.cells 3 BV.cells_len l i hlt j hj).trans (by rw [hxe]; exact hy))
      rw [Nat.zero_add]
      exact ⟨e 0 (by omega) _ rfl, e 1 (by omega) _ rfl, x.u, e 2 (by omega) _ rfl, (h.pcs x (by rw [← hxe]; exact List.getElem_mem hlt)).up (fun _ hg => hg.1)⟩
theorem bv_one {w : World} {S : Nat → Prop} {x : BV n} (h : PcAt w S n x.b.p x.u) : ∀ u ∈ x.cells, u.oneCell' = true := by
  intro u hu
  simp [BV.cells] at hu
  rcases hu with rfl | rfl | rfl
  · rfl
  · rfl
  · exact h.one
theorem br_push {w w2 : World} {base : Nat} {v v' : Value} {l : List (BV n)} (h : BrOwn w base v l) (x : BV n) (hx : PcAt w (off base w.heap.size v) n x.b.p x.u) (o : Obj) (hown : w2.ownsRow base 149 3 v' (l.length + 1) (l.flatMap BV.cells ++ x.cells)) (hg : (w.alloc o).grownBy w2 v.ownBlock) (hat : v'.ownBlock = v.ownBlock ∨ v'.ownBlock = some (w.alloc o).heap.size) : BrOwn w2 base v' (l ++ [x]) ∧ Apart w w2 (vblocks v) := by
  obtain ⟨p, c, hv⟩ := owns_shape h.own
  obtain ⟨p', c', hv'⟩ := owns_shape hown
  have hA : Apart w w2 (vblocks v) := by
    rw [hv] at hg ⊢
    have := (below_apart (malloc1 w o)).trans (grownBy_apart hg)
    rwa [List.nil_append] at this
  have key : ∀ {q : Pn n} {u : Value}, PcAt w (off base w.heap.size v) n q u → PcAt w2 (off base w2.heap.size v') n q u := fun hq => PcAt.carry (fun g hg => hA.block g hg.1.2 hg.2) (fun g hg => ⟨⟨hg.1.1, Nat.lt_of_lt_of_le hg.1.2 hA.size⟩, fun hm => by
    have hm' := (own_blocks hv').2 hm
    rcases hat with e | e
    · rw [e] at hm'
      exact hg.2 ((own_blocks hv).1 hm')
    · rw [e] at hm'
      have := hg.1.2
      simp at hm'
      omega⟩) _ _ _ hq
  refine ⟨⟨?_, fun y hy => ?_⟩, hA⟩
  · rw [List.length_append, List.length_singleton, List.flatMap_append]
    simpa using hown
  · rw [List.mem_append] at hy
    rcases hy with hy | hy
    · exact key (h.pcs y hy)
    · simp at hy
      subst hy
      exact key hx
theorem PcAt.wide {w : World} {a a' m : Nat} {p : Pn n} {u : Value} (h : PcAt w (btw a m) n p u) (ha : a' ≤ a) : PcAt w (btw a' m) n p u := h.up (fun _ hg => ⟨Nat.le_trans ha hg.1, hg.2⟩)
theorem BrS.wide {w : World} {a a' m : Nat} {v : Value} {l : List (Br (Pn n))} (h : BrS w (btw a m) v l) (ha : a' ≤ a) : BrS w (btw a' m) v l := h.carry (fun _ _ => rfl) (fun _ hg => ⟨Nat.le_trans ha hg.1, hg.2⟩)
end
theorem new_rowq (w : World) (cs : List Value) (t : TypeId) (b : Nat) (hb : b = w.heap.size) (j : Nat) (u : Value) (h : cs[j]? = some u) : (w.alloc (.cells cs.toArray t)).cell? (Addr.add ⟨b, 0, none⟩ j) = some u := by subst hb; exact new_row1 w cs t j u h
theorem Tryz.infoBr : (Tryz.prog.info? 149).map (fun i => (i.zero, i.size, i.bytes)) = some (some (.agg #[.string ByteArray.empty, .int .i64 0, .nilIface]), 3, 40) := by kernel_rfl
theorem leaf_pos (x : Option ByteArray) : 0 < (leafRow x).length := by cases x <;> simp [leafRow]
theorem row_pos : ∀ (n : Nat) (p : Pn n), 0 < (rowN n p).length
  | 0, p => leaf_pos p
  | n + 1, p => Pn.cases (P := fun p => 0 < (rowN (n + 1) p).length) (fun x => leaf_pos x) (fun x q => by rw [row_loop]; simp) (fun t l => by rw [row_talk]; simp) p
end Go.Proofs.YtmjlblbhakppfaaGreatDoor
