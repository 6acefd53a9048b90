import Derived.Test.YtmjlblbhakppfaaGreatDoorQP34
import Derived.Test.YtmjlblbhakppfaaGreatDoorQP39
namespace Go.Proofs.YtmjlblbhakppfaaGreatDoor
open Go.RowKit
set_option linter.unusedSimpArgs false
set_option linter.unusedVariables false
attribute [local go_sem ↓] Go.wp_at_zero Go.wp_at_succ

def roT : List ByteArray := [⟨#[97]⟩, ⟨#[98]⟩, ⟨#[99]⟩, ⟨#[97]⟩, ⟨#[98]⟩, ⟨#[100]⟩]
def roO : Obj := .cells #[.string ⟨#[97]⟩, .string ⟨#[98]⟩, .string ⟨#[99]⟩, .string ⟨#[97]⟩, .string ⟨#[98]⟩, .string ⟨#[100]⟩] 9
theorem ro_at (W : World) : TextsAt (W.alloc roO) (.slice (some ⟨W.heap.size, 0, none⟩) 6 6) roT :=
  texts_own (ls := roT) (World.ownsRow_lit (e := 9) (size := 1) (base := W.heap.size) W (roT.map Value.string).toArray 6 (Nat.le_refl _) (by simp [maxLen]) rfl) (by simp [roT])
theorem ro_small {x : ByteArray} (h : x ∈ roT) : x.size ≤ 20 := by
  simp only [roT, List.mem_cons, List.not_mem_nil, or_false] at h
  rcases h with rfl | rfl | rfl | rfl | rfl | rfl <;> decide
set_option maxRecDepth 100000 in
set_option maxHeartbeats 1000000 in
theorem role_any (sb : Nat) (ao : Option Addr) (len cap : Nat) (w : World) (hl : len ≤ 1048576) (h : Src w sb ao len cap) :
    Calls Tryz.prog 56 #[.pointer (some ⟨sb, 0, none⟩)] w fun e w' => ∃ x : ByteArray, e = .returned (.string x) ∧ x.size ≤ 20 ∧ Src w' sb ao len cap ∧ w.grownBy w' (some sb) := by
  have hsb := h.lt
  have HH := hide (src_alloc h roO)
  clear h
  go_enter Tryz.func56, Tryz.ntmps56
  go_wp2_with (go_at_call 41; refine (pick_any sb ao len cap roT (.slice (some ⟨w.heap.size, 0, none⟩) 6 6) (w.alloc roO) hl (by simp [roT]) (by simp [roT]) (ro_at w) (by simp [vblocks, cellBlocks]; omega) HH.out).mono ?_; rintro e w1 ⟨x, hx, rfl, hs, hg⟩; have HX := hide (ro_small hx); have HS := hide hs; have HG := hide (grown_trans (grown_alloc w roO (some sb)) hg); clear hs hg hx)
  go_ret
  exact ⟨x, rfl, HX.out, HS.out, HG.out⟩
structure MpAt (w wr : World) (sb : Nat) (ao : Option Addr) (len cap : Nat) (v : Value) (l : List Nd) : Prop where
  rd : RdW wr (btF w.heap.size wr) v l
  ok : ∀ n ∈ l, n.fit
  src : Src wr sb ao len cap
  ap : Apart w wr [sb]
theorem MpAt.drawn {w wr wn : World} {sb : Nat} {ao : Option Addr} {len cap : Nat} {v : Value} {l : List Nd} (h : MpAt w wr sb ao len cap v l) (hsb : sb < w.heap.size) (hs : Src wn sb ao len cap) (hg : wr.grownBy wn (some sb)) : MpAt w wn sb ao len cap v l := by
  have hA := Apart.grown hg
  have hk : ∀ g, btF w.heap.size wr g → wn.heap[g]? = wr.heap[g]? := fun g hg => hA.block g hg.2.1 (by simp; have := hg.1; omega)
  exact ⟨h.rd.carry hk (fun g hg => ⟨hg.1, Nat.lt_of_lt_of_le hg.2.1 hA.size, fun o => (World.frozen?_of_block (a := ⟨g, o, none⟩) (hk g hg)).trans (hg.2.2 o)⟩), h.ok, hs, (h.ap.trans hA).sub (by simp)⟩
theorem MpAt.below {w wr wn : World} {sb : Nat} {ao : Option Addr} {len cap : Nat} {v : Value} {l : List Nd} (h : MpAt w wr sb ao len cap v l) (hb : Below wr.heap.size wr wn) : MpAt w wn sb ao len cap v l :=
  ⟨h.rd.carry (fun g hg => hb.block g hg.2.1) (fun g hg => hg.go hb), h.ok, h.src.apart (below_apart hb) (by simp), h.ap.then hb⟩
theorem row_set {w : World} {g i : Nat} (u : Value) (n : Nd) (hi : i < 5) : ∀ {l : List Nd} {o : Nat} (k : Nat) (hk : k < l.length), RowAt w g o l → n.cells = (l[k]).cells.set i u → RowAt (w.setCell ⟨g, o + k * 5 + i, none⟩ u) g o (l.set k n) := by
  intro l o k hk h hn
  have hget : ∀ j (hj : j < l.length), ∀ q, q < 5 → w.cell? ⟨g, o + j * 5 + q, none⟩ = (l[j]).cells[q]? := fun j hj q hq => by
    have hr := h.get j hj
    obtain ⟨c0, c1, c2, c3, c4⟩ := hr
    match q, hq with
    | 0, _ => exact c0
    | 1, _ => exact c1
    | 2, _ => exact c2
    | 3, _ => exact c3
    | 4, _ => exact c4
    | q + 5, h => omega
  have hcell : ∀ j (hj : j < l.length), ∀ q, q < 5 → (w.setCell ⟨g, o + k * 5 + i, none⟩ u).cell? ⟨g, o + j * 5 + q, none⟩ = ((l.set k n)[j]'(by simpa using hj)).cells[q]? := fun j hj q hq => by
    by_cases hjk : j = k
    · subst hjk
      by_cases hqi : q = i
      · subst hqi
        have h0 := hget j hj q hq
        obtain ⟨x, hx⟩ : ∃ x, (l[j]).cells[q]? = some x := ⟨(l[j]).cells[q]'(by rw [Nd.cells_len]; exact hq), List.getElem?_eq_getElem (by rw [Nd.cells_len]; exact hq)⟩
        rw [hx] at h0
        rw [World.cell?_setCell_same _ _ _ h0, List.getElem_set_self, hn, List.getElem?_set_self (by rw [Nd.cells_len]; exact hq)]
      · rw [World.cell?_setCell_other _ _ _ _ (by intro e; injection e with _ e2; omega), hget j hj q hq, List.getElem_set_self, hn, List.getElem?_set_ne (by omega)]
    · rw [World.cell?_setCell_other _ _ _ _ (by intro e; injection e with _ e2; omega), hget j hj q hq, List.getElem_set_ne (by omega)]
  refine row_of _ g _ o (fun j hj => ?_)
  have hj' : j < l.length := by simpa using hj
  exact ⟨hcell j hj' 0 (by omega), hcell j hj' 1 (by omega), hcell j hj' 2 (by omega), hcell j hj' 3 (by omega), hcell j hj' 4 (by omega)⟩
theorem MpAt.shape {w wr : World} {sb : Nat} {ao : Option Addr} {len cap : Nat} {v : Value} {l : List Nd} (h : MpAt w wr sb ao len cap v l) : ∃ p c, v = .slice p l.length c := by
  obtain ⟨p, c, e, -⟩ := h.rd
  exact ⟨p, c, e⟩
theorem MpAt.at_ {w wr : World} {sb : Nat} {ao : Option Addr} {len cap : Nat} {v : Value} {l : List Nd} (h : MpAt w wr sb ao len cap v l) (hl : 0 < l.length) : ∃ g o c, v = .slice (some ⟨g, o, none⟩) l.length c ∧ l.length ≤ c ∧ c ≤ maxLen ∧ btF w.heap.size wr g ∧ RowAt wr g o l := by
  obtain ⟨p, c, e, h1, h2, -, h4⟩ := h.rd
  obtain ⟨g, o, e2, hg, hr⟩ := h4 (by intro e; rw [e] at hl; simp at hl)
  exact ⟨g, o, c, by rw [e, e2], h1, h2, hg, hr⟩
theorem MpAt.row {w wr : World} {sb : Nat} {ao : Option Addr} {len cap g o c : Nat} {l : List Nd} (h : MpAt w wr sb ao len cap (.slice (some ⟨g, o, none⟩) l.length c) l) (hl : 0 < l.length) : btF w.heap.size wr g ∧ RowAt wr g o l := by
  obtain ⟨g', o', c', e, -, -, h1, h2⟩ := h.at_ hl
  injection e with e1 _ _
  injection e1 with e1
  injection e1 with e1 e2
  subst e1 e2
  exact ⟨h1, h2⟩
theorem MpAt.put {w wr : World} {sb : Nat} {ao : Option Addr} {len cap g o c : Nat} {l : List Nd} (h : MpAt w wr sb ao len cap (.slice (some ⟨g, o, none⟩) l.length c) l) (hsb : sb < w.heap.size) (k i j : Nat) (hk : k < l.length) (hi : i < 5) (hj : j = o + k * 5 + i) (u : Value) (n : Nd) (hn : n.cells = (l[k]).cells.set i u) (hd : n.fit) : MpAt w (wr.setCell ⟨g, j, none⟩ u) sb ao len cap (.slice (some ⟨g, o, none⟩) l.length c) (l.set k n) := by
  subst hj
  obtain ⟨hg, hr⟩ := h.row (by omega)
  obtain ⟨p, c', e, h1, h2, h3, -⟩ := h.rd
  injection e with e1 _ e3
  subst e3
  have hA := setCell_apart wr g (o + k * 5 + i) u
  refine ⟨⟨some ⟨g, o, none⟩, c, by rw [List.length_set], by rw [List.length_set]; exact h1, h2, by rw [List.length_set]; exact h3, fun _ => ⟨g, o, rfl, ⟨hg.1, by simpa using hg.2.1, fun q => by rw [World.frozen?_setCell]; exact hg.2.2 q⟩, row_set u n hi k hk hr hn⟩⟩, fun m hm => ?_, h.src.apart hA (fun b hb => by simp at hb; have := hg.1; omega), h.ap.new hA (fun b hb => by simp at hb; have := hg.1; omega)⟩
  rcases List.mem_or_eq_of_mem_set hm with hm | rfl
  · exact h.ok m hm
  · exact hd
theorem MpAt.sl {w wr : World} {sb : Nat} {ao : Option Addr} {len cap : Nat} {v : Value} {l : List Nd} (h : MpAt w wr sb ao len cap v l) : SlAt wr wr.heap.size v l := by
  obtain ⟨p, c, e, h1, h2, h3, h4⟩ := h.rd
  refine ⟨p, c, e, h1, ⟨by unfold maxLen at h2; omega, by omega⟩, fun hne => ?_⟩
  obtain ⟨g, o, e2, hg, hr⟩ := h4 hne
  exact ⟨g, o, e2, hg.2.1, hr⟩
theorem MpAt.cells {w wr : World} {sb : Nat} {ao : Option Addr} {len cap g o c : Nat} {l : List Nd} (h : MpAt w wr sb ao len cap (.slice (some ⟨g, o, none⟩) l.length c) l) (k : Nat) (hk : k < l.length) : (wr.cell? ⟨g, o + k * 5, none⟩ = some (.int .i64 l[k].op) ∧ wr.cell? ⟨g, o + k * 5 + 1, none⟩ = some (.string l[k].name) ∧ wr.cell? ⟨g, o + k * 5 + 3, none⟩ = some (.int .i64 l[k].many)) ∧ ∀ j, wr.frozen? ⟨g, j, none⟩ = false := by
  obtain ⟨hg, hr⟩ := h.row (by omega)
  obtain ⟨c0, c1, c2, c3, c4⟩ := hr.get k hk
  exact ⟨⟨c0, c1, c3⟩, fun j => hg.2.2 j⟩
theorem po_fit {ns T : List Nd} {role : ByteArray} {C : Int} (h : PoIs ns role T C) (hf : ∀ n ∈ ns, n.fit) : (∀ n ∈ T, n.fit) ∧ T.length ≤ ns.length := by
  rcases h with ⟨_, rfl, _⟩ | ⟨_, _, ⟨_, rfl, _⟩ | ⟨_, p, e, hp, _, ⟨_, rfl, _⟩ | ⟨z, hz, rfl, _⟩⟩⟩
  · exact ⟨fun n hn => (by cases hn), Nat.zero_le _⟩
  · exact ⟨fun n hn => (by cases hn), Nat.zero_le _⟩
  · exact ⟨fun n hn => (by cases hn), Nat.zero_le _⟩
  · obtain ⟨h1, h2⟩ := part_sz role 10 p z hp hz
    rw [← e] at h1 h2
    exact ⟨h2 hf, h1⟩
theorem field_part (p : Option Addr) (n c : Nat) (C : Int) (W : World) : Sem.run Tryz.prog (Instr.field 41 (.agg #[.slice p n c, .int .i64 C]) 0) W = .ok (.slice p n c) W := by kernel_rfl
def ptT : List ByteArray := [⟨#[]⟩, ⟨#[97]⟩, ⟨#[120]⟩]
def ptO : Obj := .cells #[.string ⟨#[]⟩, .string ⟨#[97]⟩, .string ⟨#[120]⟩] 9
theorem pt_at (W : World) : TextsAt (W.alloc ptO) (.slice (some ⟨W.heap.size, 0, none⟩) 3 3) ptT :=
  texts_own (ls := ptT) (World.ownsRow_lit (e := 9) (size := 1) (base := W.heap.size) W (ptT.map Value.string).toArray 3 (Nat.le_refl _) (by simp [maxLen]) rfl) (by simp [ptT])
theorem pt_small {x : ByteArray} (h : x ∈ ptT) : x.size ≤ 20 := by
  simp only [ptT, List.mem_cons, List.not_mem_nil, or_false] at h
  rcases h with rfl | rfl | rfl <;> decide
def PpAns (w w' : World) (e : Ending) (sb : Nat) (ao : Option Addr) (len cap : Nat) : Prop := ∃ v l, e = .returned v ∧ l.length ≤ 14 ∧ MpAt w w' sb ao len cap v l
set_option maxRecDepth 100000 in
set_option maxHeartbeats 4000000 in
theorem part_any (sb : Nat) (ao : Option Addr) (len cap : Nat) (w : World) (hl : len ≤ 1048576) (h : Src w sb ao len cap) :
    Calls Tryz.prog 54 #[.pointer (some ⟨sb, 0, none⟩)] w fun e w' => PpAns w w' e sb ao len cap := by
  have hsb := h.lt
  have HH := hide h
  have HN : Hid (∀ (m : Int) w1, 1 ≤ m → m ≤ 100 → Src w1 sb ao len cap → Calls Tryz.prog 39 #[.pointer (some ⟨sb, 0, none⟩), .int .i64 m] w1 fun e w' => ∃ r : Int, e = .returned (.int .i64 r) ∧ 0 ≤ r ∧ r < m ∧ Src w' sb ao len cap ∧ w1.grownBy w' (some sb)) := hide (fun m w1 h1 h2 hs => n_pos sb ao len cap m w1 h1 (by omega) hl hs)
  clear h
  go_enter Tryz.func54, Tryz.ntmps54
  go_wp2_with (first
    | (go_at_call 37; refine (plan_any sb ao len cap w hl HH.out).mono ?_; rintro e w1 ⟨v1, l1, rfl, hl1, hm1⟩; have HM1 := hide hm1; obtain ⟨p1, c1, rfl⟩ := owns_shape hm1.own; clear hm1)
    | (go_at_call 56; refine (role_any sb ao len cap w1 hl HM1.out.src).mono ?_; rintro e w2 ⟨x, rfl, hx, hs, hg⟩; have HM2 := hide (HM1.out.drawn hsb hs hg); have HX : Hid (x.size ≤ maxLen) := hide (by unfold maxLen; omega); clear hs hg hx)
    | (go_at_call 33; obtain ⟨T, C, hpo, -⟩ := po_ex l1 x; refine (s_partOfF l1 x T C hpo _ w2 (fun n hn => (HM2.out.ok n hn).fits) HX.out (own_slat HM2.out.own (by omega))).mono ?_; rintro e w3 ⟨v3, rfl, hr3, hb3⟩; have hfit := po_fit hpo (fun n hn => (HM2.out.ok n hn).fits); have hT : T.length ≤ 14 := Nat.le_trans hfit.2 hl1; have HM3 : Hid (MpAt w w3 sb ao len cap v3 T) := hide ⟨hr3.up (fun g hg => ⟨Nat.le_trans HM2.out.ap.size hg.1, hg.2⟩), hfit.1, (HM2.out.below hb3).src, (HM2.out.below hb3).ap⟩; obtain ⟨p3, c3, rfl⟩ := HM3.out.shape; have hf0 := field_part p3 T.length c3 C; clear hr3 hb3 hfit hpo)
    | (go_at_call 55; refine (n_one sb ao len cap 12 w3 (by omega) (by omega) hl HM3.out.src).mono ?_; rintro e w4 ⟨b4, rfl, hs, hg⟩; have HM4 := hide (HM3.out.drawn hsb hs hg); clear hs hg; by_cases hne : 0 < T.length <;> cases b4))
  · go_ret
    exact ⟨_, T, rfl, hT, HM4.out⟩
  · obtain ⟨g, o, c, e, hlc, hcm, -, -⟩ := HM4.out.at_ (by omega)
    injection e with e1 _ e3
    subst e1 e3
    unfold maxLen at hcm
    go_wp2_with (first
      | (go_at_call 39; (fail_if_success (have := HM5)); refine (HN.out (T.length : Int) _ (by omega) (by omega) HM4.out.src).mono ?_; rintro e w5 ⟨r5, rfl, h50, h51, hs, hg⟩; have HM5 := hide (HM4.out.drawn hsb hs hg); obtain ⟨k, rfl⟩ : ∃ k : Nat, r5 = (k : Int) := ⟨r5.toNat, by omega⟩; have hk : k < T.length := (by omega); clear hs hg)
      | (go_at_call 39; have MK5 := HM5; (fail_if_success (have := HM6)); refine (HN.out 3 _ (by omega) (by omega) HM5.out.src).mono ?_; rintro e w6 ⟨r6, rfl, h60, h61, hs, hg⟩; have HM6 := hide (HM5.out.drawn hsb hs hg); clear hs hg; obtain rfl | rfl | rfl : r6 = 0 ∨ r6 = 1 ∨ r6 = 2 := (by omega))
      | (go_at_call 39; have MK6 := HM6; refine Calls.mono (HN.out _ _ (by omega) (by omega) HM6.out.src) ?_; rintro e w7 ⟨r7, rfl, h70, h71, hs, hg⟩; have HM7 := hide (HM6.out.drawn hsb hs hg); obtain ⟨⟨d0, d1, d3⟩, df⟩ := HM7.out.cells k hk; clear hs hg)
      | (go_at_call 41; have MK6 := HM6; refine (pick_any sb ao len cap ptT (.slice (some ⟨w6.heap.size, 0, none⟩) 3 3) (w6.alloc ptO) hl (by simp [ptT]) (by simp [ptT]) (pt_at w6) (by have := HM6.out.ap.size; simp [vblocks, cellBlocks]; omega) (HM6.out.below (malloc1 _ _)).src).mono ?_; rintro e w7 ⟨xp, hxp, rfl, hs, hg⟩; have HM7 := hide ((HM6.out.below (malloc1 _ ptO)).drawn hsb hs hg); have HXP := hide (pt_small hxp); obtain ⟨⟨d0, d1, d3⟩, df⟩ := HM7.out.cells k hk; clear hs hg hxp))
    · go_ret
      have hd := HM7.out.ok _ (List.getElem_mem hk)
      exact ⟨_, T.set k { T[k] with op := r7 }, rfl, by rw [List.length_set]; exact hT, HM7.out.put hsb k 0 _ hk (by omega) (by omega) _ _ rfl ⟨hd.1, hd.2⟩⟩
    · go_ret
      have hd := HM7.out.ok _ (List.getElem_mem hk)
      exact ⟨_, T.set k { T[k] with many := r7 }, rfl, by rw [List.length_set]; exact hT, HM7.out.put hsb k 3 _ hk (by omega) (by omega) _ _ rfl ⟨hd.1, hd.2⟩⟩
    · go_ret
      have hd := HM7.out.ok _ (List.getElem_mem hk)
      exact ⟨_, T.set k { T[k] with name := xp }, rfl, by rw [List.length_set]; exact hT, HM7.out.put hsb k 1 _ hk (by omega) (by omega) _ _ rfl ⟨Nat.le_trans HXP.out (by omega), hd.2⟩⟩
  · go_ret
    exact ⟨_, T, rfl, hT, HM4.out⟩
  · go_ret
    exact ⟨_, T, rfl, hT, HM4.out⟩
structure PpAt (w w' : World) (v : Value) (l : List Nd) : Prop where
  sl : SlAt w' w'.heap.size v l
  ok : ∀ n ∈ l, n.fit
  len : l.length ≤ 14
  bel : Below w.heap.size w w'
theorem mp_pp {w w1 w2 : World} {ao : Option Addr} {len cap : Nat} {v : Value} {l : List Nd} (hb : Below w.heap.size w w1) (h : MpAt w1 w2 w.heap.size ao len cap v l) (hl : l.length ≤ 14) : PpAt w w2 v l :=
  ⟨h.sl, h.ok, hl, hb.trans (h.ap.below hb.size (by simp))⟩
theorem sl_shape {w : World} {B : Nat} {v : Value} {l : List Nd} (h : SlAt w B v l) : ∃ p c, v = .slice p l.length c := by
  obtain ⟨p, c, e, -⟩ := h
  exact ⟨p, c, e⟩
set_option maxRecDepth 100000 in
set_option maxHeartbeats 1000000 in
theorem draw_partText (ao : Option Addr) (len cap : Nat) (w : World) (hl : len ≤ 1048576) (hr : ArgRow w ao len) :
    Calls Tryz.prog 22 #[.slice ao len cap] w fun e w' => ∃ (v : Value) (l : List Nd), e = .returned v ∧ PpAt w w' v l := by
  have HR := hide hr
  clear hr
  go_enter Tryz.func22, Tryz.ntmps22
  go_wp2_with (first
    | (go_at_call 36; refine (source_any ao len cap _ hl HR.out).mono ?_; rintro e w1 ⟨rfl, hs1, hb1⟩; have HS1 := hide hs1; have HB1 := hide hb1; clear hs1 hb1)
    | (go_at_call 54; refine (part_any _ ao len cap _ hl HS1.out).mono ?_; rintro e w2 ⟨v2, l2, rfl, hl2, hm2⟩; have HP2 := hide (mp_pp HB1.out hm2 hl2); obtain ⟨p2, c2, rfl⟩ := hm2.shape; clear hm2))
  go_ret
  exact ⟨_, l2, rfl, HP2.out⟩
set_option maxRecDepth 100000 in
set_option maxHeartbeats 1000000 in
theorem draw_sound (ao : Option Addr) (len cap : Nat) (w : World) (hl : len ≤ 1048576) (hr : ArgRow w ao len) :
    Calls Tryz.prog 28 #[.slice ao len cap] w fun e w' => ∃ (v : Value) (l : List Nd), e = .returned v ∧ PlAt w w' v l := by
  have HR := hide hr
  clear hr
  go_enter Tryz.func28, Tryz.ntmps28
  go_wp2_with (first
    | (go_at_call 36; refine (source_any ao len cap _ hl HR.out).mono ?_; rintro e w1 ⟨rfl, hs1, hb1⟩; have HS1 := hide hs1; have HB1 := hide hb1; clear hs1 hb1)
    | (go_at_call 37; refine (plan_any _ ao len cap _ hl HS1.out).mono ?_; rintro e w2 ⟨v2, l2, rfl, hl2, hm2⟩; have HP2 := hide (md_pl HB1.out hm2 hl2); obtain ⟨p2, c2, rfl⟩ := owns_shape hm2.own; clear hm2))
  go_ret
  exact ⟨_, l2, rfl, HP2.out⟩
set_option maxRecDepth 100000 in
set_option maxHeartbeats 1000000 in
theorem draw_partOf (ao : Option Addr) (len cap : Nat) (w : World) (hl : len ≤ 1048576) (hr : ArgRow w ao len) :
    Calls Tryz.prog 26 #[.slice ao len cap] w fun e w' => ∃ (v : Value) (l : List Nd) (x : ByteArray), e = .returned (.tuple #[v, .string x]) ∧ x.size ≤ 20 ∧ PlAt w w' v l := by
  have HR := hide hr
  clear hr
  go_enter Tryz.func26, Tryz.ntmps26
  go_wp2_with (first
    | (go_at_call 36; refine (source_any ao len cap _ hl HR.out).mono ?_; rintro e w1 ⟨rfl, hs1, hb1⟩; have HS1 := hide hs1; have HB1 := hide hb1; have hw1 : w.heap.size < w1.heap.size := hs1.lt; clear hs1 hb1)
    | (go_at_call 37; refine (plan_any _ ao len cap _ hl HS1.out).mono ?_; rintro e w2 ⟨v2, l2, rfl, hl2, hm2⟩; have HM2 := hide hm2; obtain ⟨p2, c2, rfl⟩ := owns_shape hm2.own; clear hm2)
    | (go_at_call 55; refine (n_one w.heap.size ao len cap 20 w2 (by omega) (by omega) hl HM2.out.src).mono ?_; rintro e w3 ⟨b3, rfl, hs, hg⟩; have HM3 := hide (HM2.out.drawn hw1 hs hg); clear hs hg; cases b3)
    | (go_at_call 56; refine (role_any w.heap.size ao len cap w3 hl HM3.out.src).mono ?_; rintro e w4 ⟨x, rfl, hx, hs, hg⟩; have HM4 := hide (HM3.out.drawn hw1 hs hg); have HX := hide hx; clear hs hg hx))
  · go_ret2
    exact ⟨_, l2, x, rfl, HX.out, md_pl HB1.out HM4.out hl2⟩
  · go_ret2
    exact ⟨_, l2, ⟨#[65]⟩, rfl, by decide, md_pl HB1.out HM3.out hl2⟩
def puT : List ByteArray := [⟨#[]⟩, ⟨#[97, 33, 123, 108, 40, 105, 110, 116, 41, 46, 101, 110, 100, 125]⟩, ⟨#[97, 63, 123, 125]⟩, ⟨#[114, 101, 99, 32, 120, 46, 97, 63, 123, 108, 40, 105, 110, 116, 41, 46, 120, 125]⟩, ⟨#[97, 62, 98, 123, 108, 40, 105, 110, 116, 41, 46, 101, 110, 100, 125]⟩, ⟨#[101, 110, 100]⟩, ⟨#[120]⟩]
def puO : Obj := .cells #[.string ⟨#[]⟩, .string ⟨#[97, 33, 123, 108, 40, 105, 110, 116, 41, 46, 101, 110, 100, 125]⟩, .string ⟨#[97, 63, 123, 125]⟩, .string ⟨#[114, 101, 99, 32, 120, 46, 97, 63, 123, 108, 40, 105, 110, 116, 41, 46, 120, 125]⟩, .string ⟨#[97, 62, 98, 123, 108, 40, 105, 110, 116, 41, 46, 101, 110, 100, 125]⟩, .string ⟨#[101, 110, 100]⟩, .string ⟨#[120]⟩] 9
theorem pu_at (W : World) : TextsAt (W.alloc puO) (.slice (some ⟨W.heap.size, 0, none⟩) 7 7) puT :=
  texts_own (ls := puT) (World.ownsRow_lit (e := 9) (size := 1) (base := W.heap.size) W (puT.map Value.string).toArray 7 (Nat.le_refl _) (by simp [maxLen]) rfl) (by simp [puT])
theorem pu_small {x : ByteArray} (h : x ∈ puT) : x.size ≤ 100 := by
  simp only [puT, List.mem_cons, List.not_mem_nil, or_false] at h
  rcases h with rfl | rfl | rfl | rfl | rfl | rfl | rfl <;> decide
set_option maxRecDepth 100000 in
set_option maxHeartbeats 2000000 in
theorem draw_partRead (ao : Option Addr) (len cap : Nat) (w : World) (hl : len ≤ 1048576) (hr : ArgRow w ao len) :
    Calls Tryz.prog 24 #[.slice ao len cap] w fun e w' => ∃ (x : ByteArray), e = .returned (.string x) ∧ x.size ≤ 8001 ∧ Below w.heap.size w w' := by
  have HR := hide hr
  clear hr
  go_enter Tryz.func24, Tryz.ntmps24
  go_wp2_with (first
    | (go_at_call 36; refine (source_any ao len cap _ hl HR.out).mono ?_; rintro e w1 ⟨rfl, hs1, hb1⟩; have HS1 := hide hs1; have HB1 := hide hb1; have hw1 : w.heap.size < w1.heap.size := hs1.lt; clear hs1 hb1)
    | (go_at_call 54; refine (part_any _ ao len cap _ hl HS1.out).mono ?_; rintro e w2 ⟨v2, l2, rfl, hl2, hm2⟩; have HM2 := hide hm2; obtain ⟨p2, c2, rfl⟩ := hm2.shape; clear hm2)
    | (go_at_call 29; refine (s_partText l2 _ w2 HM2.out.ok HM2.out.sl).mono ?_; rintro e w3 ⟨rfl, hb3⟩; have HM3 := hide (HM2.out.below hb3); have HT := hide (text_le true l2); obtain ⟨X, hX⟩ : ∃ X, textV true l2 = X := ⟨_, rfl⟩; rw [hX] at HT ⊢; clear hb3 hX)
    | (go_at_call 39; refine (n_any _ ao len cap 4 w3 (by omega) (by omega) hl HM3.out.src).mono ?_; rintro e w4 ⟨r4, rfl, h40, h41, hs, hg⟩; have HM4 := hide (HM3.out.drawn hw1 hs hg); clear hs hg; obtain rfl | rfl | rfl | rfl : r4 = 0 ∨ r4 = 1 ∨ r4 = 2 ∨ r4 = 3 := (by omega))
    | (go_at_call 40; refine (spoil_any _ ao len cap X w4 hl HT.out HM4.out.src).mono ?_; rintro e w5 ⟨u, rfl, hu, hs, hg⟩; have HM5 := hide (HM4.out.drawn hw1 hs hg); have HT5 : Hid (u.size ≤ 8001) := hide (Nat.le_trans hu (by have := HT.out; omega)); clear hs hg hu)
    | (go_at_call 41; refine (pick_any w.heap.size ao len cap puT (.slice (some ⟨w4.heap.size, 0, none⟩) 7 7) (w4.alloc puO) hl (by simp [puT]) (by simp [puT]) (pu_at w4) (by have := HM4.out.ap.size; simp [vblocks, cellBlocks]; omega) (HM4.out.below (malloc1 _ _)).src).mono ?_; rintro e w5 ⟨u, hu, rfl, hs, hg⟩; have HM5 := hide ((HM4.out.below (malloc1 _ puO)).drawn hw1 hs hg); have HT5 : Hid (u.size ≤ 8001) := hide (Nat.le_trans (pu_small hu) (by omega)); clear hs hg hu))
  · go_ret
    exact ⟨_, rfl, HT5.out, (mp_pp HB1.out HM5.out hl2).bel⟩
  · go_ret
    exact ⟨_, rfl, HT5.out, (mp_pp HB1.out HM5.out hl2).bel⟩
  · go_ret
    exact ⟨_, rfl, Nat.le_trans HT.out (by omega), (mp_pp HB1.out HM4.out hl2).bel⟩
  · go_ret
    exact ⟨_, rfl, Nat.le_trans HT.out (by omega), (mp_pp HB1.out HM4.out hl2).bel⟩
end Go.Proofs.YtmjlblbhakppfaaGreatDoor
