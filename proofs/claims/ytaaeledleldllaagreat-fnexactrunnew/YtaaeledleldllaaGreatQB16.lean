import Derived.Test.YtaaeledleldllaaGreatQB13
import Derived.Test.YtaaeledleldllaaGreatQB14
import Derived.Test.YtaaeledleldllaaGreatQB15
namespace Go.Proofs.YtaaeledleldllaaGreat
open Go.RowKit

def stepS (acc : List ByteArray) (n : Nd) : List ByteArray :=
  let a := if n.op == 3 then putS acc n.name else acc
  if n.peer.toList == [] then a else putS a n.peer
def rolesS (ns : List Nd) : List ByteArray := ns.foldl stepS []

theorem put_len (ls : List ByteArray) (t : ByteArray) : (putS ls t).length ≤ ls.length + 1 := by
  rw [putS]
  split
  · omega
  · simp; omega
theorem roles_next {ns : List Nd} {k : Nat} (h : k < ns.length) : (ns.take (k + 1)).foldl stepS [] = stepS ((ns.take k).foldl stepS []) ns[k] := by
  rw [List.take_succ_eq_append_getElem h, List.foldl_append]; rfl
theorem STexts.carry {w w' : World} {v : Value} {ls : List ByteArray} (h : STexts w v ls) (hb : Below w.heap.size w w') : STexts w' v ls := by
  obtain ⟨b, o, cap, h1, h2, h3, h4⟩ := h
  exact ⟨b, o, cap, h1, h2, h3, fun i hi => (hb.cell (p := ⟨b, _, none⟩) (World.block_lt_of_cell? w _ (h4 i hi))).trans (h4 i hi)⟩

set_option maxRecDepth 100000 in
set_option maxHeartbeats 1000000 in
theorem s_roles (ns : List Nd) (v : Value) (w : World) (hv : SlAt w w.heap.size v ns) (hl : ns.length ≤ 40) :
    Calls Tryz.prog 63 #[v] w fun e w' => ∃ v', e = .returned v' ∧ STexts w' v' (rolesS ns) ∧ Below w.heap.size w w' := by
  obtain ⟨ao, cap, rfl, hc, hm, hr⟩ := hv
  have HR := hide hr
  clear hr
  go_enter Tryz.func63, Tryz.ntmps63
  go_wp2_with fail
  go_loopw [3, 4] (fun out i wr => ∃ k : Nat, k ≤ ns.length ∧ i = .int .i64 k ∧ STexts wr out ((ns.take k).foldl stepS []) ∧ ((ns.take k).foldl stepS []).length ≤ 2 * k ∧ Below w.heap.size w wr)
    (fun _ i _ => ns.length - (intOf i).toNat)
  case atStart => exact ⟨0, Nat.zero_le _, rfl, ⟨w.heap.size, 0, 0, rfl, Nat.le_refl _, by unfold maxLen; omega, fun i h => absurd h (by simp)⟩, by simp, alloc1 _ _⟩
  case round =>
    obtain ⟨k, hk, rfl, hst, hsl, hbel⟩ := hrel
    obtain ⟨acc, hacc⟩ : ∃ acc, acc = (ns.take k).foldl stepS [] := ⟨_, rfl⟩
    rw [← hacc] at hst hsl
    have HACC := hide hacc
    have HST := hide hst
    have HBEL := hide hbel
    have hszr := hbel.size
    clear hacc hbel
    obtain ⟨b1, o1, cap1, rfl, hst1⟩ := hst
    clear hst1
    by_cases hlt : k < ns.length
    · obtain ⟨b, o, rfl, hbB, hrow⟩ := HR.out (by intro h; simp [h] at hlt)
      have hnode := (hrow.get k hlt).carry hbB HBEL.out
      obtain ⟨n1, hn1⟩ : ∃ n1, n1 = ns[k] := ⟨_, rfl⟩
      rw [← hn1] at hnode
      have HN := hide (show (ns.take (k + 1)).foldl stepS [] = stepS acc n1 by rw [roles_next hlt, HACC.out, hn1])
      have HND := hide hnode
      clear hn1 hrow
      have hbw : b < wr.heap.size := hnode.lt
      obtain ⟨c0, c1, c2, c3, c4⟩ := hnode
      obtain ⟨op3, hop3⟩ : ∃ op3, (n1.op == 3) = op3 := ⟨_, rfl⟩
      obtain ⟨pe, hpe⟩ : ∃ pe, (n1.peer.toList == []) = pe := ⟨_, rfl⟩
      have HO3 := hide hop3
      have HPE := hide hpe
      cases op3
      · cases pe
        · go_wp2_with (go_at_call 103; refine (s_put acc n1.peer _ _ HST.out (by omega)).mono ?_; rintro e w1 ⟨v1, rfl, hs1, hb1⟩; have HS1 := hide hs1; obtain ⟨b2, o2, cap2, rfl, hs2⟩ := hs1; have HB1 := hide hb1; clear hs2 hb1)
          go_roundw
          case rel =>
            have hst : stepS acc n1 = putS acc n1.peer := by simp [stepS, HO3.out, HPE.out]
            refine ⟨k + 1, by omega, by go_num, by rw [HN.out, hst]; exact HS1.out, by rw [HN.out, hst]; have := put_len acc n1.peer; omega, HBEL.out.trans (HB1.out.mono hszr)⟩
          case measure => simp [intOf]; omega
        · go_wp2_with fail
          go_roundw
          case rel =>
            have hst : stepS acc n1 = acc := by simp [stepS, HO3.out, HPE.out]
            refine ⟨k + 1, by omega, by go_num, by rw [HN.out, hst]; exact HST.out, by rw [HN.out, hst]; omega, HBEL.out⟩
          case measure => simp [intOf]; omega
      · cases pe
        · go_wp2_with (first | (go_at_call_of 103 n1.peer; refine (s_put (putS acc n1.name) n1.peer _ _ HS1.out (by have := put_len acc n1.name; omega)).mono ?_; rintro e w2 ⟨v2, rfl, hs3, hb2⟩; have HS2 := hide hs3; obtain ⟨b3, o3, cap3, rfl, hs4⟩ := hs3; have HB2 := hide hb2; clear hs4 hb2) | (go_at_call_of 103 n1.name; refine (s_put acc n1.name _ _ HST.out (by omega)).mono ?_; rintro e w1 ⟨v1, rfl, hs1, hb1⟩; have HS1 := hide hs1; obtain ⟨b2, o2, cap2, rfl, hs2⟩ := hs1; have hz1 := hb1.size; obtain ⟨d0, d1, d2, d3, d4⟩ := HND.out.carry hbw hb1; have HB1 := hide hb1; clear hs2 hb1))
          go_roundw
          case rel =>
            have hst : stepS acc n1 = putS (putS acc n1.name) n1.peer := by simp [stepS, HO3.out, HPE.out]
            refine ⟨k + 1, by omega, by go_num, by rw [HN.out, hst]; exact HS2.out, by rw [HN.out, hst]; have := put_len acc n1.name; have := put_len (putS acc n1.name) n1.peer; omega, HBEL.out.trans ((HB1.out.mono hszr).trans (HB2.out.mono (by omega)))⟩
          case measure => simp [intOf]; omega
        · go_wp2_with (go_at_call 103; refine (s_put acc n1.name _ _ HST.out (by omega)).mono ?_; rintro e w1 ⟨v1, rfl, hs1, hb1⟩; have HS1 := hide hs1; obtain ⟨b2, o2, cap2, rfl, hs2⟩ := hs1; have hz1 := hb1.size; obtain ⟨d0, d1, d2, d3, d4⟩ := HND.out.carry hbw hb1; have HB1 := hide hb1; clear hs2 hb1)
          go_roundw
          case rel =>
            have hst : stepS acc n1 = putS acc n1.name := by simp [stepS, HO3.out, HPE.out]
            refine ⟨k + 1, by omega, by go_num, by rw [HN.out, hst]; exact HS1.out, by rw [HN.out, hst]; have := put_len acc n1.name; omega, HBEL.out.trans (HB1.out.mono hszr)⟩
          case measure => simp [intOf]; omega
    · go_wp2_with fail
      go_ret
      refine ⟨_, rfl, ?_, HBEL.out⟩
      have := HST.out
      rw [HACC.out, List.take_of_length_le (by omega)] at this
      have e : acc.length = ((ns.take k).foldl stepS []).length := by rw [HACC.out]
      rw [e, List.take_of_length_le (by omega)]
      exact this
end Go.Proofs.YtaaeledleldllaaGreat
namespace Go.Proofs.YtaaeledleldllaaGreat
open Go.RowKit

set_option maxHeartbeats 400000 in
theorem end_past (part : Bool) (f : Nat) (st all : List Nd) (pos bx : Nat) (a d op : Int) (rv : Value) (w : World) (ha : a = pos) (hpl : ¬ pos < all.length) (hx : LookAt w bx part all) (hr : TextsAt w rv (recsOf st)) :
    Calls Tryz.prog 116 #[.pointer (some ⟨bx, 0, none⟩), .int .i64 a, .int .i64 d, rv, .int .i64 op] w fun e w' => e = .returned (.int .i64 (endPos all (ahead (talkS part) f st (all.drop pos)))) ∧ Below w.heap.size w w' := by
  obtain ⟨rao, rcap, rfl, rc1, rc2, -⟩ := hr
  obtain ⟨xao, xcap, x0, x1, x2, x3, x4⟩ := hx
  subst ha
  have HE := hide (show endPos all (ahead (talkS part) f st (all.drop pos)) = -1 by rw [List.drop_of_length_le (by omega)]; cases f <;> rfl)
  have hp2 : decide ((all.length : Int) ≤ (pos : Int)) = true := decide_eq_true (by omega)
  clear x4
  go_enter Tryz.func116, Tryz.ntmps116
  go_wp2_with fail
  go_ret
  exact ⟨ret_int HE.out, Below.refl _ _⟩

theorem end_calls (part : Bool) (f : Nat) : EndCalls part f := by
  induction f with
  | zero =>
    intro st all pos bx a d op rv w hlen hst ok ha hpos hd hop hx hr hnil
    by_cases hpl : pos < all.length
    · cases hn : all[pos] with
      | mk op0 name peer many sort =>
        by_cases o0 : op0 = 0
        · subst o0; exact end_0 part 0 st all pos bx a d op rv w hlen hst ok ha hpl hd hop hx hr hnil name peer many sort hn
        · by_cases o1 : op0 = 1
          · subst o1; exact end_1 part 0 st all pos bx a d op rv w hlen hst ok ha hpl hd hop hx hr hnil name peer many sort hn
          · by_cases o2 : op0 = 2
            · subst o2; exact end_2a part 0 st all pos bx a d op rv w hlen hst ok ha hpl hd hop hx hr hnil name peer many sort (.inl rfl) hn
            · exact end_t part 0 (fun g h => absurd h (by omega)) st all pos bx a d op rv w hlen hst ok ha hpl hd hop hx hr hnil name peer op0 many sort ⟨o0, o1, o2⟩ hn
    · exact end_past part 0 st all pos bx a d op rv w ha hpl hx hr
  | succ f ih =>
    intro st all pos bx a d op rv w hlen hst ok ha hpos hd hop hx hr hnil
    by_cases hpl : pos < all.length
    · cases hn : all[pos] with
      | mk op0 name peer many sort =>
        by_cases o0 : op0 = 0
        · subst o0; exact end_0 part (f + 1) st all pos bx a d op rv w hlen hst ok ha hpl hd hop hx hr hnil name peer many sort hn
        · by_cases o1 : op0 = 1
          · subst o1; exact end_1 part (f + 1) st all pos bx a d op rv w hlen hst ok ha hpl hd hop hx hr hnil name peer many sort hn
          · by_cases o2 : op0 = 2
            · subst o2
              cases hy : (recB ⟨2, name, peer, many, sort⟩ && !withinB st name)
              · exact end_2a part (f + 1) st all pos bx a d op rv w hlen hst ok ha hpl hd hop hx hr hnil name peer many sort (.inr hy) hn
              · by_cases hrn : recsOf st = []
                · exact end_2n part f st all pos bx a d op rv w hlen hst ok ha hpl hd hop hx hr hnil name peer many sort ih hy hrn hn
                · exact end_2m part f st all pos bx a d op rv w hlen hst ok ha hpl hd hop hx hr hnil name peer many sort ih hy hrn hn
            · exact end_t part (f + 1) (fun g h => by cases h; exact ih) st all pos bx a d op rv w hlen hst ok ha hpl hd hop hx hr hnil name peer op0 many sort ⟨o0, o1, o2⟩ hn
    · exact end_past part (f + 1) st all pos bx a d op rv w ha hpl hx hr
end Go.Proofs.YtaaeledleldllaaGreat
