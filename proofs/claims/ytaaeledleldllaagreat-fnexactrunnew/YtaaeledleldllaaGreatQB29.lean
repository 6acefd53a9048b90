import Derived.Test.YtaaeledleldllaaGreatQB28
namespace Go.Proofs.YtaaeledleldllaaGreat
open Go.RowKit
attribute [local go_sem ↓] Go.wp_at_zero Go.wp_at_succ

def RdS (w : World) (S : Nat → Prop) (v : Value) (l : List Nd) : Prop := ∃ ao cap, v = .slice ao l.length cap ∧ l.length ≤ cap ∧ cap ≤ maxLen ∧ l.length ≤ 2000 ∧ (l ≠ [] → ∃ g o, ao = some ⟨g, o, none⟩ ∧ S g ∧ RowAt w g o l)
theorem RowAt.block {w w' : World} {g : Nat} (hb : w'.heap[g]? = w.heap[g]?) : ∀ {l : List Nd} {o : Nat}, RowAt w g o l → RowAt w' g o l
  | [], _, _ => trivial
  | _ :: _, _, ⟨⟨h0, h1, h2, h3, h4⟩, hr⟩ => ⟨⟨(World.cell?_of_block (a := ⟨g, _, none⟩) hb).trans h0, (World.cell?_of_block (a := ⟨g, _, none⟩) hb).trans h1, (World.cell?_of_block (a := ⟨g, _, none⟩) hb).trans h2, (World.cell?_of_block (a := ⟨g, _, none⟩) hb).trans h3, (World.cell?_of_block (a := ⟨g, _, none⟩) hb).trans h4⟩, RowAt.block hb hr⟩
theorem RdS.carry {w w' : World} {S S' : Nat → Prop} {v : Value} {l : List Nd} (h : RdS w S v l) (hb : ∀ g, S g → w'.heap[g]? = w.heap[g]?) (hS : ∀ g, S g → S' g) : RdS w' S' v l := by
  obtain ⟨ao, cap, e, h1, h2, h3, h4⟩ := h
  refine ⟨ao, cap, e, h1, h2, h3, fun hne => ?_⟩
  obtain ⟨g, o, e1, e2, e3⟩ := h4 hne
  exact ⟨g, o, e1, hS g e2, e3.block (hb g e2)⟩
theorem RdS.up {w : World} {S S' : Nat → Prop} {v : Value} {l : List Nd} (h : RdS w S v l) (hS : ∀ g, S g → S' g) : RdS w S' v l := h.carry (fun _ _ => rfl) hS
theorem RdS.on {w w' : World} {S : Nat → Prop} {v : Value} {l : List Nd} (h : RdS w S v l) (hS : ∀ g, S g → g < w.heap.size) (hb : Below w.heap.size w w') : RdS w' S v l := h.carry (fun g hg => hb.block g (hS g hg)) (fun _ hg => hg)
theorem drop_next {all post : List Nd} {pos : Nat} {x : Nd} {r : List Nd} (h : all.drop pos = x :: r ++ post) : ∃ hp : pos < all.length, all[pos] = x ∧ all.drop (pos + 1) = r ++ post := by
  have hp : pos < all.length := by
    rcases Nat.lt_or_ge pos all.length with h' | h'
    · exact h'
    · rw [List.drop_of_length_le h'] at h; cases h
  rw [List.drop_eq_getElem_cons hp, List.cons_append] at h
  injection h with h1 h2
  exact ⟨hp, h1, h2⟩
theorem drop_len {all mid post : List Nd} {pos : Nat} (h : all.drop pos = mid ++ post) (hm : mid ≠ []) : pos + mid.length + post.length = all.length := by
  have := congrArg List.length h
  rw [List.length_drop, List.length_append] at this
  have : 0 < mid.length := List.length_pos_iff.2 hm
  omega
theorem drop_more {all mid post : List Nd} {pos : Nat} (h : all.drop pos = mid ++ post) : all.drop (pos + mid.length) = post := by
  rw [← List.drop_drop, h, List.drop_left]
def BehindCalls (n : Nat) : Prop := ∀ (p : Pn n) (all post : List Nd) (pos : Nat) (v : Value) (w : World) (S : Nat → Prop), (∀ g, S g → g < w.heap.size) → shapeN n p → all.length ≤ 1000 → all.drop pos = rowN n p ++ post → RdS w S v all → Calls Tryz.prog 117 #[v, .int .i64 pos] w fun e w' => e = .returned (.int .i64 ((pos + (rowN n p).length : Nat) : Int)) ∧ Below w.heap.size w w'
set_option maxRecDepth 100000 in
set_option maxHeartbeats 1000000 in
theorem behind_leaf (x : Option ByteArray) (all post : List Nd) (pos : Nat) (v : Value) (w : World) (S : Nat → Prop) (hS : ∀ g, S g → g < w.heap.size) (hl : all.length ≤ 1000) (h : all.drop pos = leafRow x ++ post) (hv : RdS w S v all) : Calls Tryz.prog 117 #[v, .int .i64 pos] w fun e w' => e = .returned (.int .i64 ((pos + (leafRow x).length : Nat) : Int)) ∧ Below w.heap.size w w' := by
  obtain ⟨nd, hr, hop, hmany⟩ : ∃ nd, leafRow x = [nd] ∧ (nd.op = 0 ∨ nd.op = 1) ∧ nd.many = 0 := by
    cases x with
    | none => exact ⟨_, rfl, .inl rfl, rfl⟩
    | some x => exact ⟨_, rfl, .inr rfl, rfl⟩
  rw [hr] at h ⊢
  obtain ⟨hp, hn, -⟩ := drop_next h
  obtain ⟨ao, cap, rfl, hc, hm, -, hrow⟩ := hv
  obtain ⟨g, o, rfl, hg, hrow⟩ := hrow (fun e => by rw [e] at hp; simp at hp)
  have hnode := hrow.get pos hp
  rw [hn] at hnode
  obtain ⟨op, name, peer, many, sort⟩ := nd
  dsimp only at hmany hop
  subst hmany
  obtain ⟨c0, c1, c2, c3, c4⟩ := hnode
  dsimp only at c0 c1 c2 c3 c4
  have HL : Hid (([⟨op, name, peer, 0, sort⟩] : List Nd).length = 1) := hide rfl
  have e2 : (op == 2) = false := by rcases hop with rfl | rfl <;> rfl
  have hgw := hS g hg
  obtain ⟨M, hM⟩ : ∃ M, all.length = M := ⟨_, rfl⟩
  rw [hM] at hp hl hc ⊢
  clear hrow hn hr h hS hM hop
  go_enter Tryz.func117, Tryz.ntmps117
  go_wp2_with fail
  go_loopw [1, 6] (fun av kv wr => av = .int .i64 ((pos : Int) + 1) ∧ kv = .int .i64 0 ∧ wr = w.alloc (.cells #[.int .i64 op, .string name, .string peer, .int .i64 0, .int .i64 sort] 68)) (fun _ _ _ => 0)
  case atStart => exact ⟨by go_num, rfl, rfl⟩
  case round =>
    obtain ⟨rfl, rfl, rfl⟩ := hrel
    go_wp2_with fail
    go_ret
    refine ⟨?_, malloc1 w _⟩
    show Ending.returned (.int .i64 ((pos : Int) + 1)) = .returned (.int .i64 ((pos + 1 : Nat) : Int))
    rw [Int.natCast_add]
    rfl
set_option maxRecDepth 100000 in
set_option maxHeartbeats 1000000 in
theorem behind_loop (n : Nat) (ih : BehindCalls n) (x : ByteArray) (q : Pn n) (hq : shapeN n q) (all post : List Nd) (pos : Nat) (v : Value) (w : World) (S : Nat → Prop) (hS : ∀ g, S g → g < w.heap.size) (hl : all.length ≤ 1000) (h : all.drop pos = rowN (n + 1) (.loop x q) ++ post) (hv : RdS w S v all) : Calls Tryz.prog 117 #[v, .int .i64 pos] w fun e w' => e = .returned (.int .i64 ((pos + (rowN (n + 1) (.loop x q)).length : Nat) : Int)) ∧ Below w.heap.size w w' := by
  rw [row_loop] at h ⊢
  obtain ⟨hp, hn, h1⟩ := drop_next h
  have HIH : Hid (∀ W, Below w.heap.size w W → Calls Tryz.prog 117 #[v, .int .i64 ((pos + 1 : Nat) : Int)] W fun e w' => e = .returned (.int .i64 ((pos + 1 + (rowN n q).length : Nat) : Int)) ∧ Below W.heap.size W w') := hide (fun W hW => ih q all post (pos + 1) v W S (fun g hg => Nat.lt_of_lt_of_le (hS g hg) hW.size) hq hl h1 (hv.on hS hW))
  obtain ⟨ao, cap, rfl, hc, hm, -, hrow⟩ := hv
  obtain ⟨g, o, rfl, hg, hrow⟩ := hrow (fun e => by rw [e] at hp; simp at hp)
  have hnode := hrow.get pos hp
  rw [hn] at hnode
  obtain ⟨c0, c1, c2, c3, c4⟩ := hnode
  dsimp only at c0 c1 c2 c3 c4
  have hgw := hS g hg
  obtain ⟨M, hM⟩ : ∃ M, all.length = M := ⟨_, rfl⟩
  rw [hM] at hp hl hc HIH ⊢
  clear hrow hn h h1 hS hM ih
  go_enter Tryz.func117, Tryz.ntmps117
  go_wp2_with (go_at_call 117; refine (HIH.out _ (malloc1 _ _)).mono ?_; rintro e w1 ⟨rfl, hb1⟩; have HB1 : Hid (Below w.heap.size w w1) := hide ((malloc1 w _).trans (hb1.mono (by simp))); clear hb1)
  go_ret
  refine ⟨?_, HB1.out⟩
  show Ending.returned (.int .i64 ((pos + 1 + (rowN n q).length : Nat) : Int)) = .returned (.int .i64 ((pos + ((rowN n q).length + 1) : Nat) : Int))
  rw [show pos + 1 + (rowN n q).length = pos + ((rowN n q).length + 1) by omega]
set_option maxRecDepth 100000 in
set_option maxHeartbeats 1000000 in
theorem behind_talk (n : Nat) (ih : BehindCalls n) (t : Tk) (l : List (Br (Pn n))) (ht : t.op ≠ 2) (hsh : ∀ b ∈ l, shapeN n b.p) (all post : List Nd) (pos : Nat) (v : Value) (w : World) (S : Nat → Prop) (hS : ∀ g, S g → g < w.heap.size) (hl : all.length ≤ 1000) (h : all.drop pos = rowN (n + 1) (.talk t l) ++ post) (hv : RdS w S v all) : Calls Tryz.prog 117 #[v, .int .i64 pos] w fun e w' => e = .returned (.int .i64 ((pos + (rowN (n + 1) (.talk t l)).length : Nat) : Int)) ∧ Below w.heap.size w w' := by
  rw [row_talk] at h ⊢
  obtain ⟨hp, hn, h1⟩ := drop_next h
  have HIH : Hid (∀ (k p : Nat) (b : Br (Pn n)), l[k]? = some b → all.drop p = brsBy (rowN n) (l.drop k) ++ post → (all.drop (p + 1 + (rowN n b.p).length) = brsBy (rowN n) (l.drop (k + 1)) ++ post ∧ p + 1 < all.length) ∧ ∀ W, Below w.heap.size w W → Calls Tryz.prog 117 #[v, .int .i64 ((p : Int) + 1)] W fun e w' => e = .returned (.int .i64 ((p + 1 + (rowN n b.p).length : Nat) : Int)) ∧ Below W.heap.size W w') := hide (fun k p b hb hd => by
    have hlt := (List.getElem?_eq_some_iff.1 hb).1
    have hbe : l[k] = b := (List.getElem?_eq_some_iff.1 hb).2
    rw [List.drop_eq_getElem_cons hlt, hbe, brs_cons, List.cons_append, List.append_assoc] at hd
    obtain ⟨hp1, hn1, h2⟩ := drop_next (r := rowN n b.p ++ brsBy (rowN n) (l.drop (k + 1))) (post := post) (by rw [hd, List.cons_append, List.append_assoc])
    rw [List.append_assoc] at h2
    refine ⟨⟨drop_more h2, ?_⟩, fun W hW => ?_⟩
    · rcases Nat.lt_or_ge (p + 1) all.length with h' | h'
      · exact h'
      · rw [List.drop_of_length_le h'] at h2
        have := congrArg List.length h2
        rw [List.length_append] at this
        have := row_pos n b.p
        simp at *
        omega
    · exact ih b.p all _ (p + 1) v W S (fun g hg => Nat.lt_of_lt_of_le (hS g hg) hW.size) (hsh b (List.mem_of_getElem? hb)) hl h2 (hv.on hS hW))
  obtain ⟨ao, cap, rfl, hc, hm, -, hrow⟩ := hv
  obtain ⟨g, o, rfl, hg, hrow⟩ := hrow (fun e => by rw [e] at hp; simp at hp)
  have hnode := hrow.get pos hp
  rw [hn] at hnode
  obtain ⟨op, a, b⟩ := t
  dsimp only at ht
  obtain ⟨c0, c1, c2, c3, c4⟩ := hnode
  dsimp only at c0 c1 c2 c3 c4
  have hgw := hS g hg
  have e2 : (op == 2) = false := by simpa using ht
  have hbl : l.length ≤ 1000 := by
    have h1' := congrArg List.length h1
    rw [List.length_drop, List.length_append] at h1'
    have := brs_count (rowN n) l
    omega
  have HH := hide h1
  have HTL : Hid (∀ p, all.drop p = brsBy (rowN n) (l.drop l.length) ++ post → p ≤ all.length → p = pos + ((brsBy (rowN n) l).length + 1)) := hide (fun p hd hple => by
    have h1' := congrArg List.length h1
    have h2' := congrArg List.length hd
    rw [List.drop_length] at h2'
    simp only [List.length_drop, List.length_append, brsBy, List.flatMap_nil, List.length_nil] at h1' h2'
    have : pos < all.length := hp
    unfold brsBy
    omega)
  obtain ⟨K, hK⟩ : ∃ K, l.length = K := ⟨_, rfl⟩
  obtain ⟨M, hM⟩ : ∃ M, all.length = M := ⟨_, rfl⟩
  rw [hM] at hp hl hc HIH HTL ⊢
  rw [hK] at c3 hbl HTL
  have HK := hide hK
  have HM := hide hM
  clear hrow hn h h1 hS hM hK ih hsh ht
  go_enter Tryz.func117, Tryz.ntmps117
  go_wp2_with fail
  go_loopw [1, 6] (fun av kv wr => ∃ k p : Nat, k ≤ K ∧ p ≤ M ∧ av = .int .i64 p ∧ kv = .int .i64 k ∧ all.drop p = brsBy (rowN n) (l.drop k) ++ post ∧ Below (w.heap.size + 1) (w.alloc (.cells #[.int .i64 op, .string a, .string b, .int .i64 (K : Int), .int .i64 0] 68)) wr) (fun _ kv _ => K - (intOf kv).toNat)
  case atStart => exact ⟨0, pos + 1, Nat.zero_le _, hp, by go_num, rfl, HH.out, Below.refl _ _⟩
  case round =>
    obtain ⟨k, p, hk, hpM, rfl, rfl, hd, hb⟩ := hrel
    have HD := hide hd
    have HB := hide hb
    have m3 : wr.cell? ⟨w.heap.size, 3, none⟩ = some (.int .i64 (K : Int)) := (hb.cell (p := ⟨w.heap.size, 3, none⟩) (by simp)).trans (by simp)
    have HBW : Hid (Below w.heap.size w wr) := hide ((malloc1 w _).trans (hb.mono (by omega)))
    have hzw := HBW.out.size
    clear hd hb
    by_cases hlt : k < K
    · obtain ⟨d, hdk⟩ : ∃ d, l[k]? = some d := ⟨l[k]'(by rw [HK.out]; exact hlt), List.getElem?_eq_getElem _⟩
      obtain ⟨⟨hnx, hp1⟩, hcall⟩ := HIH.out k p d hdk HD.out
      have HC := hide hcall
      have HNX := hide hnx
      have hle : p + 1 + (rowN n d.p).length ≤ M := by
        have := congrArg List.length HNX.out
        have h0 := congrArg List.length HD.out
        rw [List.length_drop] at this
        rw [List.length_drop] at h0
        have hbd := brs_drop hdk
        simp only [List.length_append, HM.out] at this h0
        omega
      clear hcall hnx hdk
      go_wp2_with (go_at_call 117; refine (HC.out _ HBW.out).mono ?_; rintro e w1 ⟨rfl, hb1⟩; have HB1 := hide hb1; clear hb1)
      go_roundw
      case rel => exact ⟨k + 1, p + 1 + (rowN n d.p).length, hlt, hle, rfl, by go_num, HNX.out, HB.out.trans (HB1.out.mono (by have := HB.out.size; simpa using this))⟩
      case measure => simp [intOf]; omega
    · obtain rfl : k = K := by omega
      have HE := hide (HTL.out p HD.out hpM)
      go_wp2_with fail
      go_ret
      refine ⟨?_, HBW.out⟩
      rw [← HE.out]
      rfl
theorem behind_calls : ∀ n : Nat, BehindCalls n := by
  intro n
  induction n with
  | zero => intro p all post pos v w S hS _ hl h hv; exact behind_leaf p all post pos v w S hS hl h hv
  | succ n ih =>
    intro p
    refine Pn.cases (P := fun p => ∀ (all post : List Nd) (pos : Nat) (v : Value) (w : World) (S : Nat → Prop), (∀ g, S g → g < w.heap.size) → shapeN (n + 1) p → all.length ≤ 1000 → all.drop pos = rowN (n + 1) p ++ post → RdS w S v all → Calls Tryz.prog 117 #[v, .int .i64 pos] w fun e w' => e = .returned (.int .i64 ((pos + (rowN (n + 1) p).length : Nat) : Int)) ∧ Below w.heap.size w w') (fun x all post pos v w S hS _ hl h hv => behind_leaf x all post pos v w S hS hl h hv) (fun x q all post pos v w S hS hs hl h hv => behind_loop n ih x q hs all post pos v w S hS hl h hv) (fun t l all post pos v w S hS hs hl h hv => ?_) p
    have hs' : tkOk t ∧ l ≠ [] ∧ ∀ b ∈ l, shapeN n b.p := hs
    refine behind_talk n ih t l (fun e => ?_) hs'.2.2 all post pos v w S hS hl h hv
    rcases hs'.1 with h3 | ⟨h5 | h6, _⟩ <;> omega
end Go.Proofs.YtaaeledleldllaaGreat
namespace Go.Proofs.YtaaeledleldllaaGreat
open Go.RowKit
attribute [local go_sem ↓] Go.wp_at_zero Go.wp_at_succ

def isIn (role : ByteArray) (n : Nd) : Bool := n.op == 3 && (n.name.toList == role.toList || n.peer.toList == role.toList)
theorem has_any (role : ByteArray) (l : List Nd) : hasRole role l = l.any (isIn role) := rfl
theorem mid_get {all mid post : List Nd} {pos k : Nat} (h : all.drop pos = mid ++ post) (hk : k < mid.length) : ∃ hp : pos + k < all.length, all[pos + k] = mid[k] := by
  have h1 := congrArg (fun l => l[k]?) h
  rw [List.getElem?_drop, List.getElem?_append_left hk, List.getElem?_eq_getElem hk] at h1
  exact List.getElem?_eq_some_iff.1 h1
set_option maxRecDepth 100000 in
set_option maxHeartbeats 1000000 in
theorem s_talks (role : ByteArray) (all mid post : List Nd) (pos : Nat) (v : Value) (w : World) (S : Nat → Prop) (hS : ∀ g, S g → g < w.heap.size) (hl : all.length ≤ 1000) (hpl : pos ≤ 1000) (h : all.drop pos = mid ++ post) (hv : RdS w S v all) :
    Calls Tryz.prog 118 #[v, .int .i64 pos, .int .i64 ((pos + mid.length : Nat) : Int), .string role] w fun e w' => e = .returned (.bool (hasRole role mid)) ∧ Below w.heap.size w w' := by
  obtain ⟨ao, cap, rfl, hc, hm, -, hrow⟩ := hv
  have HR := hide hrow
  have HH := hide h
  have HS := hide hS
  have hlm : mid.length ≤ 1000 := by have := congrArg List.length h; rw [List.length_drop, List.length_append] at this; omega
  obtain ⟨M, hM⟩ : ∃ M, mid.length = M := ⟨_, rfl⟩
  obtain ⟨L, hL⟩ : ∃ L, all.length = L := ⟨_, rfl⟩
  rw [hM] at hlm ⊢
  rw [hL] at hl hc ⊢
  have HM := hide hM
  have HL := hide hL
  clear hrow h hS hM hL
  go_enter Tryz.func118, Tryz.ntmps118
  go_wp2_with fail
  go_loopw [9] (fun i wr => ∃ k : Nat, k ≤ M ∧ i = .int .i64 ((pos + k : Nat) : Int) ∧ (∀ j (hj : j < mid.length), j < k → isIn role mid[j] = false) ∧ Below w.heap.size w wr) (fun i _ => pos + M - (intOf i).toNat)
  case atStart => exact ⟨0, Nat.zero_le _, rfl, fun j _ h => absurd h (by omega), Below.refl _ _⟩
  case round =>
    obtain ⟨k, hk, rfl, hall, hb⟩ := hrel
    have HA := hide hall
    have HB := hide hb
    clear hall hb
    by_cases hlt : k < M
    · have hkm : k < mid.length := by rw [HM.out]; exact hlt
      obtain ⟨hpk, hget⟩ := mid_get HH.out hkm
      obtain ⟨g, o, rfl, hg, hrow⟩ := HR.out (fun e => by rw [e] at hpk; simp at hpk)
      have hnode := (hrow.get (pos + k) hpk).carry (HS.out g hg) HB.out
      rw [hget] at hnode
      obtain ⟨x, hx⟩ : ∃ x, mid[k] = x := ⟨_, rfl⟩
      rw [hx] at hnode
      have HX := hide hx
      obtain ⟨op, name, peer, many, sort⟩ := x
      obtain ⟨c0, c1, c2, c3, c4⟩ := hnode
      dsimp only at c0 c1 c2 c3 c4
      rw [HL.out] at hpk
      clear hrow hget hx
      have HNO : Hid (isIn role ⟨op, name, peer, many, sort⟩ = false → ∀ j (hj : j < mid.length), j < k + 1 → isIn role mid[j] = false) := hide (fun h0 j hj hjk => by
        by_cases e : j = k
        · subst e; rw [HX.out]; exact h0
        · exact HA.out j hj (by omega))
      have HYES : Hid (isIn role ⟨op, name, peer, many, sort⟩ = true → hasRole role mid = true) := hide (fun h0 => by
        rw [has_any, List.any_eq_true]
        exact ⟨mid[k], List.getElem_mem hkm, by rw [HX.out]; exact h0⟩)
      have hI : isIn role ⟨op, name, peer, many, sort⟩ = ((op == 3) && (name.toList == role.toList || peer.toList == role.toList)) := rfl
      rw [hI] at HNO HYES
      obtain ⟨q3, h3⟩ : ∃ q, (op == 3) = q := ⟨_, rfl⟩
      obtain ⟨q1, h1⟩ : ∃ q, (name.toList == role.toList) = q := ⟨_, rfl⟩
      obtain ⟨q2, h2⟩ : ∃ q, (peer.toList == role.toList) = q := ⟨_, rfl⟩
      rw [h3, h1, h2] at HNO HYES
      clear hI
      cases q3
      · go_wp2_with fail
        go_roundw
        case rel => exact ⟨k + 1, hlt, by go_num, HNO.out rfl, HB.out⟩
        case measure => simp [intOf]; omega
      · cases q1
        · cases q2
          · go_wp2_with fail
            go_roundw
            case rel => exact ⟨k + 1, hlt, by go_num, HNO.out rfl, HB.out⟩
            case measure => simp [intOf]; omega
          · go_wp2_with fail
            go_ret
            exact ⟨ret_bool (HYES.out rfl), HB.out⟩
        · go_wp2_with fail
          go_ret
          exact ⟨ret_bool (HYES.out (by cases q2 <;> rfl)), HB.out⟩
    · obtain rfl : k = M := by omega
      have HF : Hid (hasRole role mid = false) := hide (by
        rw [has_any, List.any_eq_false]
        intro x hx
        obtain ⟨j, hj, rfl⟩ := List.getElem_of_mem hx
        rw [HA.out j hj (by rw [← HM.out]; exact hj)]
        simp)
      go_wp2_with fail
      go_ret
      exact ⟨ret_bool HF.out, HB.out⟩
set_option maxRecDepth 100000 in
set_option maxHeartbeats 1000000 in
theorem s_same (x y : List Nd) (v u : Value) (w : World) (S : Nat → Prop) (hS : ∀ g, S g → g < w.heap.size) (hx : RdS w S v x) (hy : RdS w S u y) :
    Calls Tryz.prog 188 #[v, u] w fun e w' => e = .returned (.bool (rowEq x y)) ∧ Below w.heap.size w w' := by
  obtain ⟨ax, cx, rfl, hcx, hmx, hlx, hrx⟩ := hx
  obtain ⟨ay, cy, rfl, hcy, hmy, hly, hry⟩ := hy
  have HRX := hide hrx
  have HRY := hide hry
  have HS := hide hS
  obtain ⟨L, hL⟩ : ∃ L, x.length = L := ⟨_, rfl⟩
  obtain ⟨M, hM⟩ : ∃ M, y.length = M := ⟨_, rfl⟩
  rw [hL] at hlx hcx ⊢
  rw [hM] at hly hcy ⊢
  have HL := hide hL
  have HM := hide hM
  clear hrx hry hL hM hS
  by_cases hne : L = M
  · subst hne
    go_enter Tryz.func188, Tryz.ntmps188
    go_wp2_with fail
    go_loopw [5] (fun i wr => ∃ k : Nat, k ≤ L ∧ i = .int .i64 k ∧ (∀ j (h1 : j < x.length) (h2 : j < y.length), j < k → ndEq x[j] y[j] = true) ∧ Below w.heap.size w wr) (fun i _ => L - (intOf i).toNat)
    case atStart => exact ⟨0, Nat.zero_le _, rfl, fun j _ _ h => absurd h (by omega), Below.refl _ _⟩
    case round =>
      obtain ⟨k, hk, rfl, hall, hbel⟩ := hrel
      have HA := hide hall
      have HBEL := hide hbel
      clear hall
      by_cases hlt : k < L
      · have hkx : k < x.length := by rw [HL.out]; exact hlt
        have hky : k < y.length := by rw [HM.out]; exact hlt
        obtain ⟨b, o, rfl, hbB, hrow⟩ := HRX.out (by intro h; rw [h] at hkx; simp at hkx)
        obtain ⟨b', o', rfl, hbB', hrow'⟩ := HRY.out (by intro h; rw [h] at hky; simp at hky)
        have hn1 := (hrow.get k hkx).carry (HS.out b hbB) hbel
        have hn2 := (hrow'.get k hky).carry (HS.out b' hbB') hbel
        obtain ⟨x1, hx1⟩ : ∃ x1, x[k] = x1 := ⟨_, rfl⟩
        obtain ⟨y1, hy1⟩ : ∃ y1, y[k] = y1 := ⟨_, rfl⟩
        rw [hx1] at hn1
        rw [hy1] at hn2
        obtain ⟨c0, c1, c2, c3, c4⟩ := hn1
        obtain ⟨d0, d1, d2, d3, d4⟩ := hn2
        obtain ⟨r, hr⟩ : ∃ r, ndEq x1 y1 = r := ⟨_, rfl⟩
        have heq : ∀ W, (Op.equalIn 10000 68 (.agg #[.int .i64 x1.op, .string x1.name, .string x1.peer, .int .i64 x1.many, .int .i64 x1.sort]) (.agg #[.int .i64 y1.op, .string y1.name, .string y1.peer, .int .i64 y1.many, .int .i64 y1.sort])).run Tryz.prog W = .ok r W := fun W => by rw [nd_equal, hr]
        have HRR := hide hr
        have HX1 := hide hx1
        have HY1 := hide hy1
        clear hrow hrow' hr hx1 hy1 hbel
        cases r
        · go_wp2_with fail
          go_region
          go_wp2_with fail
          all_goals
            go_ret
            exact ⟨ret_bool (rowEq_no hkx hky (by rw [HX1.out, HY1.out]; exact HRR.out)), by first | exact HBEL.out | exact HBEL.out.drew⟩
        · go_wp2_with fail
          go_region
          go_wp2_with fail
          all_goals
            go_roundw
            case rel =>
              refine ⟨k + 1, hlt, by go_num, fun j h1 h2 hjk => ?_, by first | exact HBEL.out | exact HBEL.out.drew⟩
              by_cases hjk' : j = k
              · subst hjk'; rw [HX1.out, HY1.out]; exact HRR.out
              · exact HA.out j h1 h2 (by omega)
            case measure => simp [intOf]; omega
      · go_wp2_with fail
        go_ret
        exact ⟨ret_bool (rowEq_yes (by rw [HL.out, HM.out]) (fun j h1 h2 => HA.out j h1 h2 (by rw [HL.out] at h1; omega))), HBEL.out⟩
  · have HF : Hid (rowEq x y = false) := hide (rowEq_len (by rw [HL.out, HM.out]; exact hne))
    have hq : ((L : Int) == (M : Int)) = false := beq_eq_false_iff_ne.2 (by omega)
    go_enter Tryz.func188, Tryz.ntmps188
    go_wp2_with fail
    go_ret
    exact ⟨ret_bool HF.out, Below.refl _ _⟩
end Go.Proofs.YtaaeledleldllaaGreat
namespace Go.Proofs.YtaaeledleldllaaGreat
open Go.RowKit
attribute [local go_sem ↓] Go.wp_at_zero Go.wp_at_succ

structure RoundD (w wr : World) (mid : List Nd) (nv : Value) (k : Nat) (ns : List ByteArray) : Prop where
  same : closedL ns (mid.drop k) = closedL [] mid
  own : wr.ownsRow w.heap.size 9 1 nv ns.length (ns.map Value.string)
  len : ns.length ≤ k
  bel : Below w.heap.size w wr
set_option maxRecDepth 100000 in
set_option maxHeartbeats 2000000 in
theorem s_closed (all mid post : List Nd) (pos : Nat) (v : Value) (w : World) (S : Nat → Prop) (hS : ∀ g, S g → g < w.heap.size) (hl : all.length ≤ 1000) (hpl : pos ≤ 1000) (h : all.drop pos = mid ++ post) (hv : RdS w S v all) :
    Calls Tryz.prog 119 #[v, .int .i64 pos, .int .i64 ((pos + mid.length : Nat) : Int)] w fun e w' => e = .returned (.bool (closedL [] mid)) ∧ Below w.heap.size w w' := by
  obtain ⟨i0, hi, hz0, hz1, hz2⟩ := info_parts Tryz.infoStr
  have HI := hide (And.intro hi (And.intro hz0 (And.intro hz1 hz2)))
  obtain ⟨ao, cap, rfl, hc, hm, -, hrow⟩ := hv
  have HR := hide hrow
  have HH := hide h
  have HS := hide hS
  have hlm : mid.length ≤ 1000 := by have := congrArg List.length h; rw [List.length_drop, List.length_append] at this; omega
  obtain ⟨M, hM⟩ : ∃ M, mid.length = M := ⟨_, rfl⟩
  obtain ⟨L, hL⟩ : ∃ L, all.length = L := ⟨_, rfl⟩
  rw [hM] at hlm ⊢
  obtain ⟨T, hT⟩ : ∃ T, pos + M = T := ⟨_, rfl⟩
  rw [hT]
  rw [hL] at hl hc ⊢
  have HM := hide hM
  have HL := hide hL
  clear hrow h hS hM hL hi hz0 hz1 hz2
  go_enter Tryz.func119, Tryz.ntmps119
  go_wp2_with fail
  go_loopw [7, 8] (fun nv i wr => ∃ (k : Nat) (ns : List ByteArray), k ≤ M ∧ i = .int .i64 ((pos + k : Nat) : Int) ∧ RoundD w wr mid nv k ns) (fun _ i _ => pos + M - (intOf i).toNat)
  case atStart => exact ⟨0, [], Nat.zero_le _, rfl, ⟨rfl, owns_empty _ _ _ _ _ (Nat.le_refl _) (mheap_new _ _ _ rfl), Nat.le_refl _, malloc1 _ _⟩⟩
  case round =>
    obtain ⟨k, ns, hk, rfl, hR⟩ := hrel
    have HRR := hide hR
    have hzw := hR.bel.size
    have hnl := hR.len
    obtain ⟨np, nc, hnv⟩ := owns_shape hR.own
    obtain ⟨Q, hQ⟩ : ∃ Q, ns.length = Q := ⟨_, rfl⟩
    rw [hQ] at hnv hnl
    have HQ := hide hQ
    subst hnv
    by_cases hlt : k < M
    · have hkm : k < mid.length := by rw [HM.out]; exact hlt
      obtain ⟨hpk, hget⟩ := mid_get HH.out hkm
      obtain ⟨g, o, rfl, hg, hrow⟩ := HR.out (fun e => by rw [e] at hpk; simp at hpk)
      have hgw := HS.out g hg
      have hnode := (hrow.get (pos + k) hpk).carry hgw hR.bel
      rw [hget] at hnode
      have HST : Hid (∀ x, mid[k] = x → closedL [] mid = if x.op == 2 then closedL (ns ++ [x.name]) (mid.drop (k + 1)) else if x.op == 1 && !hasB ns x.name then false else closedL ns (mid.drop (k + 1))) := hide (fun x hx => by
        rw [← hR.same, List.drop_eq_getElem_cons hkm, hx, closedL])
      obtain ⟨x, hx⟩ : ∃ x, mid[k] = x := ⟨_, rfl⟩
      rw [hx] at hnode
      have HS1 := hide (HST.out x hx)
      have HOWN : Hid (wr.ownsRow w.heap.size 9 1 (.slice np Q nc) Q (ns.map Value.string)) := hide (by have := hR.own; rw [HQ.out] at this; exact this)
      obtain ⟨op, name, peer, many, sort⟩ := x
      obtain ⟨c0, c1, c2, c3, c4⟩ := hnode
      dsimp only at c0 c1 c2 c3 c4
      rw [HL.out] at hpk
      have hbw : g < wr.heap.size := Nat.lt_of_lt_of_le hgw hzw
      clear hrow hget hx hR hQ HST
      by_cases h2 : op = 2
      · subst h2
        go_wp2_with (at_builtin; refine wpList_append_own _ rfl (.tmp 22) (.tmp 28) 70 rfl w.heap.size 9 i0 (.string ByteArray.empty) 1 16 Tryz.underlying70 HI.out.1 HI.out.2.1 HI.out.2.2.1 HI.out.2.2.2 rfl (by decide) (.slice np Q nc) Q (ns.map Value.string) rfl (owns_below HOWN.out (malloc1 wr _)) ⟨wr.heap.size, 0, none⟩ 1 1 [.string name] rfl rfl (fun j u hj => new_rowq _ _ _ _ (by simp) j u hj) (by intro u hu; simp at hu; subst hu; rfl) (by unfold maxLen; omega) (by omega) (by simp; omega) ?_; intro v4 w4 hown4 hgr4 _; have HO4 := hide hown4; have HA4 : Hid (Apart wr w4 (vblocks (.slice np Q nc))) := hide (by have := (below_apart (malloc1 wr _)).trans (grownBy_apart hgr4); rwa [List.nil_append] at this); have d0 : w4.cell? ⟨g, o + (pos + k) * 5, none⟩ = some (.int .i64 2) := HA4.out.cell' c0 (fun hm => absurd ((owns_fresh HOWN.out).lo _ hm) (by omega)); obtain ⟨p4, c4', rfl⟩ := owns_shape hown4; clear hown4 hgr4)
        go_roundw
        case rel =>
          refine ⟨k + 1, ns ++ [name], hlt, by go_num, ⟨?_, ?_, by rw [List.length_append, HQ.out]; simp; omega, HRR.out.bel.trans (HA4.out.below hzw (owns_fresh HOWN.out).lo)⟩⟩
          · rw [HS1.out]; rfl
          · rw [List.length_append, List.length_singleton, HQ.out, List.map_append]
            exact HO4.out
        case measure => simp [intOf]; omega
      · have e2 : (op == 2) = false := by simpa using h2
        by_cases h1 : op = 1
        · subst h1
          obtain ⟨q, hq⟩ : ∃ q, hasB ns name = q := ⟨_, rfl⟩
          have HQQ := hide hq
          have HCO : Hid (∀ W, Below wr.heap.size wr W → Calls Tryz.prog 62 #[.slice np Q nc, .string name] W fun e w' => e = .returned (.bool q) ∧ w' = W) := hide (fun W hW => by
            have := s_among ns name (.slice np Q nc) W (texts_own (base := w.heap.size) (e := 9) (by rw [HQ.out]; exact owns_below HOWN.out hW) (by rw [HQ.out]; omega))
            rw [hq] at this
            exact this)
          clear hq
          cases q
          · go_wp2_with (go_at_call 62; refine (HCO.out _ (Below.refl _ _)).mono ?_; rintro e w' ⟨rfl, hw'⟩; subst w')
            go_ret
            refine ⟨ret_bool ?_, HRR.out.bel⟩
            rw [HS1.out]
            simp [HQQ.out]
          · go_wp2_with (go_at_call 62; refine (HCO.out _ (Below.refl _ _)).mono ?_; rintro e w' ⟨rfl, hw'⟩; subst w')
            go_roundw
            case rel =>
              refine ⟨k + 1, ns, hlt, by go_num, ⟨?_, by rw [HQ.out]; exact HOWN.out, by rw [HQ.out]; omega, HRR.out.bel⟩⟩
              rw [HS1.out]
              simp [HQQ.out]
            case measure => simp [intOf]; omega
        · have e1 : (op == 1) = false := by simpa using h1
          go_wp2_with fail
          go_roundw
          case rel =>
            refine ⟨k + 1, ns, hlt, by go_num, ⟨?_, by rw [HQ.out]; exact HOWN.out, by rw [HQ.out]; omega, HRR.out.bel⟩⟩
            rw [HS1.out]
            simp [e1, e2]
          case measure => simp [intOf]; omega
    · have HT : Hid (closedL [] mid = true) := hide (by rw [← HRR.out.same, List.drop_of_length_le (by rw [HM.out]; omega), closedL])
      go_wp2_with fail
      go_ret
      exact ⟨ret_bool HT.out, HRR.out.bel⟩
end Go.Proofs.YtaaeledleldllaaGreat
