import Derived.Test.YtaaeledleldllaaGreatQB21
import Derived.Lib.SliceRun
import Derived.Laws.AppendOwnNone
namespace Go.Proofs.YtaaeledleldllaaGreat
open Go.RowKit
attribute [local go_sem ↓] Go.wp_at_zero Go.wp_at_succ

set_option maxRecDepth 100000 in
set_option maxHeartbeats 1000000 in
theorem row_msg (n : Nat) (l : List (Br (Pn n))) (hin : ∀ b ∈ l, RowCalls n b.p) (a b : ByteArray) (sl : Value) (w : World) (hs : BrS w (lo w.heap.size) sl l) (hlen : (brsBy (rowN n) l).length ≤ 999) : RowBy (talkV ⟨3, a, b⟩ sl) w (rowN (n + 1) (.talk ⟨3, a, b⟩ l)) := by
  refine ⟨_, _, 243, rfl, fun W => by kernel_rfl, fun W => by kernel_rfl, fun W hW => ?_⟩
  rw [row_talk]
  have HT : Hid (∀ (o : Obj), Calls Tryz.prog 244 #[.agg #[.int .i64 3, .string a, .string b, .int .i64 0, .int .i64 0], sl] (W.alloc o) fun e w' => Rowed (W.alloc o) w' e (⟨3, a, b, (l.length : Int), 0⟩ :: brsBy (rowN n) l)) := hide (fun o => talk_row n l hin 3 a b 0 0 sl _ ((hs.on hW).on (malloc1 W o)) hlen)
  obtain ⟨ao, cap, rfl, -⟩ := hs
  go_enter Tryz.func243, Tryz.ntmps243
  go_wp2_with (go_at_call 244; refine (HT.out _).mono ?_; rintro e w2 ⟨v2, rfl, h2, hb2⟩; have H2 := hide h2; have HB2 := hide hb2; clear h2 hb2)
  go_ret
  exact ⟨v2, rfl, owns_down H2.out (by simp), (malloc1 W _).trans (HB2.out.mono (by simp))⟩
set_option maxRecDepth 100000 in
set_option maxHeartbeats 1000000 in
theorem row_snd (n : Nat) (l : List (Br (Pn n))) (hin : ∀ b ∈ l, RowCalls n b.p) (b : ByteArray) (sl : Value) (w : World) (hs : BrS w (lo w.heap.size) sl l) (hlen : (brsBy (rowN n) l).length ≤ 999) : RowBy (talkV ⟨5, noT, b⟩ sl) w (rowN (n + 1) (.talk ⟨5, noT, b⟩ l)) := by
  refine ⟨_, _, 246, rfl, fun W => by kernel_rfl, fun W => by kernel_rfl, fun W hW => ?_⟩
  rw [row_talk]
  have HT : Hid (∀ (o : Obj), Calls Tryz.prog 244 #[.agg #[.int .i64 5, .string noT, .string b, .int .i64 0, .int .i64 0], sl] (W.alloc o) fun e w' => Rowed (W.alloc o) w' e (⟨5, noT, b, (l.length : Int), 0⟩ :: brsBy (rowN n) l)) := hide (fun o => talk_row n l hin 5 noT b 0 0 sl _ ((hs.on hW).on (malloc1 W o)) hlen)
  obtain ⟨ao, cap, rfl, -⟩ := hs
  go_enter Tryz.func246, Tryz.ntmps246
  go_wp2_with (go_at_call 244; refine (HT.out _).mono ?_; rintro e w2 ⟨v2, rfl, h2, hb2⟩; have H2 := hide h2; have HB2 := hide hb2; clear h2 hb2)
  go_ret
  exact ⟨v2, rfl, owns_down H2.out (by simp), (malloc1 W _).trans (HB2.out.mono (by simp))⟩
set_option maxRecDepth 100000 in
set_option maxHeartbeats 1000000 in
theorem row_rcv (n : Nat) (l : List (Br (Pn n))) (hin : ∀ b ∈ l, RowCalls n b.p) (b : ByteArray) (sl : Value) (w : World) (hs : BrS w (lo w.heap.size) sl l) (hlen : (brsBy (rowN n) l).length ≤ 999) : RowBy (talkV ⟨6, noT, b⟩ sl) w (rowN (n + 1) (.talk ⟨6, noT, b⟩ l)) := by
  refine ⟨_, _, 247, rfl, fun W => by kernel_rfl, fun W => by kernel_rfl, fun W hW => ?_⟩
  rw [row_talk]
  have HT : Hid (∀ (o : Obj), Calls Tryz.prog 244 #[.agg #[.int .i64 6, .string noT, .string b, .int .i64 0, .int .i64 0], sl] (W.alloc o) fun e w' => Rowed (W.alloc o) w' e (⟨6, noT, b, (l.length : Int), 0⟩ :: brsBy (rowN n) l)) := hide (fun o => talk_row n l hin 6 noT b 0 0 sl _ ((hs.on hW).on (malloc1 W o)) hlen)
  obtain ⟨ao, cap, rfl, -⟩ := hs
  go_enter Tryz.func247, Tryz.ntmps247
  go_wp2_with (go_at_call 244; refine (HT.out _).mono ?_; rintro e w2 ⟨v2, rfl, h2, hb2⟩; have H2 := hide h2; have HB2 := hide hb2; clear h2 hb2)
  go_ret
  exact ⟨v2, rfl, owns_down H2.out (by simp), (malloc1 W _).trans (HB2.out.mono (by simp))⟩
set_option maxRecDepth 100000 in
set_option maxHeartbeats 2000000 in
theorem row_rec (n : Nat) (q : Pn n) (hin : RowCalls n q) (x : ByteArray) (u : Value) (w : World) (hs : PcAt w (lo w.heap.size) n q u) (hlen : (rowN n q).length ≤ 999) : RowBy (.iface 179 (.agg #[.string x, u])) w (rowN (n + 1) (.loop x q)) := by
  refine ⟨_, _, 199, rfl, fun W => by kernel_rfl, fun W => by kernel_rfl, fun W hW => ?_⟩
  rw [row_loop]
  obtain ⟨i0, hi, hz0, hz1, hz2⟩ := info_parts Tryz.infoNd
  have HI := hide (And.intro hi (And.intro hz0 (And.intro hz1 hz2)))
  obtain ⟨T, av, K, rfl, hm, hcf, hcall⟩ := hin u w hs (by omega)
  have hrp := row_pos n q
  obtain ⟨N, hN⟩ : ∃ N, rowN n q = N := ⟨_, rfl⟩
  rw [hN] at hrp hlen hcall ⊢
  obtain ⟨RL, hRL⟩ : ∃ RL, N.length = RL := ⟨_, rfl⟩
  rw [hRL] at hrp hlen
  have HRL := hide hRL
  have HCALL : Hid (∀ V, Below W.heap.size W V → Calls Tryz.prog K #[av] V fun e w' => Rowed V w' e N) := hide (fun V hV => hcall V (hW.trans (hV.mono hW.size)))
  clear hi hz0 hz1 hz2 hN hRL hcall hin hs hW
  go_enter Tryz.func199, Tryz.ntmps199
  go_wp2_with fail
  go_region_law (first
    | (go_simp; (fail_if_success (have := HO5)); refine Calls.mono (HCALL.out _ (by first | exact (malloc1 W _).drew | exact (malloc1 W _).drew.trans ((malloc1 _ _).mono (by simp)))) ?_; rintro e w5 ⟨v5, rfl, ho5, hb5⟩; have HO5 := hide ho5; have HB5 := hide hb5; have HBW5 : Hid (Below W.heap.size W w5) := hide (by first | exact (malloc1 W _).drew.trans (hb5.mono (by simp)) | exact ((malloc1 W _).drew.trans ((malloc1 _ _).mono (by simp))).trans (hb5.mono (by simp; omega))); have y0 : w5.cell? ⟨W.heap.size, 0, none⟩ = some (.string x) := (by rw [hb5.cell (p := ⟨W.heap.size, 0, none⟩) (by first | (simp; done) | (simp; omega))]; simp); obtain ⟨g5, c5, hv5, -, -⟩ := ho5.at_ (by rw [HRL.out]; exact hrp); rw [HRL.out] at hv5; subst hv5; clear ho5 hb5)
    | (refine stepM_at rfl (.tmp 6) (.tmp 9) 25 rfl W.heap.size 68 i0 (.agg #[.int .i64 0, .string ByteArray.empty, .string ByteArray.empty, .int .i64 0, .int .i64 0]) 5 56 Tryz.underlying25 HI.out.1 HI.out.2.1 HI.out.2.2.1 HI.out.2.2.2 rfl (by decide) (.slice (some ⟨W.heap.size + 1, 0, none⟩) 1 1) 1 (Nd.cells ⟨2, x, noT, 0, 0⟩) (by simp [Act.eval]) (by have := owns_below (nd_lit (W.alloc (.cells #[.string x, .iface T av] 179)).drew ⟨2, x, noT, 0, 0⟩ W.heap.size (W.heap.size + 1) (by simp) (by simp)) HB5.out; exact this) ⟨g5, 0, none⟩ RL c5 (N.flatMap Nd.cells) (by simp [Act.eval]) (by rw [flat_len Nd.cells 5 Nd.cells_len, HRL.out]) (fun j u hj => by have := HO5.out; unfold NdOwn at this; rw [HRL.out] at this; exact NdOwn.cell (l := N) (c := c5) (by unfold NdOwn; rw [HRL.out]; exact this) j u hj) (nds_one N) (by unfold maxLen; omega) (by omega) (by have := HBW5.out.size; simp; omega) ?_; intro v6 w6 hown6 hgr6 hat6; have HO6 := hide hown6; have HB6 : Hid (Below W.heap.size W w6) := hide (HBW5.out.trans ((grownBy_apart hgr6).below HBW5.out.size (by simp [vblocks, cellBlocks]))); obtain ⟨p6, c6, rfl⟩ := owns_shape hown6; clear hown6 hgr6 hat6)
    | (refine stepM_at rfl (.tmp 6) (.tmp 9) 25 rfl W.heap.size 68 i0 (.agg #[.int .i64 0, .string ByteArray.empty, .string ByteArray.empty, .int .i64 0, .int .i64 0]) 5 56 Tryz.underlying25 HI.out.1 HI.out.2.1 HI.out.2.2.1 HI.out.2.2.2 rfl (by decide) (.slice (some ⟨w5.heap.size, 0, none⟩) 1 1) 1 (Nd.cells ⟨2, x, noT, 0, 0⟩) (by simp [Act.eval]) (by have := nd_lit w5 ⟨2, x, noT, 0, 0⟩ W.heap.size w5.heap.size rfl HBW5.out.size; exact this) ⟨g5, 0, none⟩ RL c5 (N.flatMap Nd.cells) (by simp [Act.eval]) (by rw [flat_len Nd.cells 5 Nd.cells_len, HRL.out]) (fun j u hj => by have := HO5.out.below (malloc1 w5 (.cells #[.int .i64 2, .string x, .string noT, .int .i64 0, .int .i64 0] 68)); unfold NdOwn at this; rw [HRL.out] at this; exact NdOwn.cell (l := N) (c := c5) (by unfold NdOwn; rw [HRL.out]; exact this) j u hj) (nds_one N) (by unfold maxLen; omega) (by omega) (by have := HBW5.out.size; simp; omega) ?_; intro v6 w6 hown6 hgr6 hat6; have HO6 := hide hown6; have HB6 : Hid (Below W.heap.size W w6) := hide ((HBW5.out.trans ((malloc1 w5 _).mono HBW5.out.size)).trans ((grownBy_apart hgr6).below (by have := HBW5.out.size; simp; omega) (by have := HBW5.out.size; simp [vblocks, cellBlocks]; omega))); obtain ⟨p6, c6, rfl⟩ := owns_shape hown6; clear hown6 hgr6 hat6)
    | fail)
  all_goals
    go_wp2_with fail
    go_ret
    refine ⟨_, rfl, ?_, HB6.out⟩
    have := HO6.out
    unfold NdOwn
    have e : (⟨2, x, noT, 0, 0⟩ :: N : List Nd).length = 1 + RL := by rw [List.length_cons, HRL.out, Nat.add_comm]
    rw [e, List.flatMap_cons]
    exact this
end Go.Proofs.YtaaeledleldllaaGreat
namespace Go.Proofs.YtaaeledleldllaaGreat
open Go.RowKit

def tkOk (t : Tk) : Prop := t.op = 3 ∨ ((t.op = 5 ∨ t.op = 6) ∧ t.a = noT)
def shapeN : (n : Nat) → Pn n → Prop
  | 0, _ => True
  | n + 1, p => p.by (fun _ => True) (fun _ q => shapeN n q) (fun t l => tkOk t ∧ l ≠ [] ∧ ∀ b ∈ l, shapeN n b.p)
theorem plan_shape : ∀ (n : Nat) (p : Pn n), planN n p → shapeN n p := by
  intro n
  induction n with
  | zero => intro p _; trivial
  | succ n ih =>
    intro p
    refine Pn.cases (P := fun p => planN (n + 1) p → shapeN (n + 1) p) (fun x _ => trivial) (fun x q hp => ih q hp) (fun t l hp => ?_) p
    have hp' : t.op = 3 ∧ (t.a.toList == t.b.toList) = false ∧ 1 ≤ l.length ∧ l.length ≤ 4 ∧ ∀ b ∈ l, planN n b.p := hp
    exact ⟨.inl hp'.1, (fun h => by have := hp'.2.2.1; rw [h] at this; simp at this), fun b hb => ih b.p (hp'.2.2.2.2 b hb)⟩
theorem up_shape : ∀ (n : Nat) (p : Pn n), shapeN n p → shapeN (n + 1) (upN n p) := by
  intro n
  induction n with
  | zero => intro p _; trivial
  | succ n ih =>
    intro p
    refine Pn.cases (P := fun p => shapeN (n + 1) p → shapeN (n + 2) (upN (n + 1) p)) (fun x _ => trivial) (fun x q hp => ih q hp) (fun t l hp => ?_) p
    have hp' : tkOk t ∧ l ≠ [] ∧ ∀ b ∈ l, shapeN n b.p := hp
    refine ⟨hp'.1, (fun h => hp'.2.1 (List.map_eq_nil_iff.1 h)), fun b hb => ?_⟩
    obtain ⟨c, hc, rfl⟩ := List.mem_map.1 hb
    exact ih c.p (hp'.2.2 c hc)
theorem mem_set {α : Type} : ∀ {l : List α} {i : Nat} {x y : α}, y ∈ l.set i x → y ∈ l ∨ y = x
  | [], i, x, y, h => by simp at h
  | a :: l, 0, x, y, h => by
    rw [List.set_cons_zero, List.mem_cons] at h
    rcases h with h | h
    · exact .inr h
    · exact .inl (by simp [h])
  | a :: l, i + 1, x, y, h => by
    rw [List.set_cons_succ, List.mem_cons] at h
    rcases h with h | h
    · exact .inl (by simp [h])
    · rcases mem_set h with q | q
      · exact .inl (by simp [q])
      · exact .inr q
theorem mergeBy_all {α : Type} {Q : α → Prop} {mg : α → α → Option α} (hmg : ∀ x y z, Q x → Q y → mg x y = some z → Q z) : ∀ (ds acc l : List (Br α)), (∀ b ∈ acc, Q b.p) → (∀ b ∈ ds, Q b.p) → mergeBy mg acc ds = some l → ∀ b ∈ l, Q b.p
  | [], acc, l, ha, _, h => by
    rw [mergeBy] at h
    injection h with h
    subst h
    exact ha
  | d :: ds, acc, l, ha, hd, h => by
    rw [mergeBy] at h
    split at h
    · exact mergeBy_all hmg ds _ l (fun b hb => by rw [List.mem_append] at hb; rcases hb with hb | hb; exact ha b hb; simp at hb; subst hb; exact hd b (by simp)) (fun b hb => hd b (by simp [hb])) h
    · rename_i i hi
      split at h
      · cases h
      · rename_i b hb
        split at h
        · cases h
        · rename_i q hq
          split at h
          · refine mergeBy_all hmg ds _ l (fun c hc => ?_) (fun b hb => hd b (by simp [hb])) h
            rcases mem_set hc with hc | hc
            · exact ha c hc
            · subst hc
              exact hmg b.p d.p q (ha b (List.mem_of_getElem? hb)) (hd d (by simp)) hq
          · cases h
theorem mergeBy_ne {α : Type} {mg : α → α → Option α} : ∀ (ds acc l : List (Br α)), acc ≠ [] → mergeBy mg acc ds = some l → l ≠ []
  | [], acc, l, ha, h => by
    rw [mergeBy] at h
    injection h with h
    subst h
    exact ha
  | d :: ds, acc, l, ha, h => by
    rw [mergeBy] at h
    split at h
    · exact mergeBy_ne ds _ l (by simp) h
    · split at h
      · cases h
      · split at h
        · cases h
        · split at h
          · exact mergeBy_ne ds _ l (fun e => ha (by have := congrArg List.length e; rw [List.length_set] at this; exact List.length_eq_zero_iff.1 this)) h
          · cases h
theorem merge_shape : ∀ (n : Nat) (x y z : Pn n), shapeN n x → shapeN n y → mergeN n x y = some z → shapeN n z := by
  intro n
  induction n with
  | zero => intro x y z _ _ _; trivial
  | succ n ih =>
    intro x y z hx hy h
    rw [mergeN] at h
    split at h
    · injection h with h; subst h; exact hx
    · split at h
      · rename_i a cs b ds ex ey
        split at h
        · split at h
          · rename_i l hl
            split at h
            · injection h with h
              subst h
              obtain ⟨x', rfl⟩ := hear_some ex
              obtain ⟨y', rfl⟩ := hear_some ey
              have hx' : tkOk ⟨6, x', a⟩ ∧ cs ≠ [] ∧ ∀ b ∈ cs, shapeN n b.p := hx
              have hy' : tkOk ⟨6, y', b⟩ ∧ ds ≠ [] ∧ ∀ b ∈ ds, shapeN n b.p := hy
              exact ⟨.inr ⟨.inr rfl, rfl⟩, mergeBy_ne ds cs l hx'.2.1 hl, mergeBy_all (Q := shapeN n) ih ds cs l hx'.2.2 hy'.2.2 hl⟩
            · cases h
          · cases h
        · cases h
      · cases h
theorem mergeAll_all {α : Type} {Q : α → Prop} {mg : α → α → Option α} (hmg : ∀ x y z, Q x → Q y → mg x y = some z → Q z) : ∀ (r : List (Br α)) (x z : α), Q x → (∀ b ∈ r, Q b.p) → mergeAll mg x r = some z → Q z
  | [], x, z, hx, _, h => by rw [mergeAll] at h; injection h with h; subst h; exact hx
  | b :: r, x, z, hx, hr, h => by
    rw [mergeAll] at h
    split at h
    · cases h
    · rename_i q hq
      exact mergeAll_all hmg r q z (hmg x b.p q hx (hr b (by simp)) hq) (fun c hc => hr c (by simp [hc])) h
theorem parts_all {α : Type} {Q R : α → Prop} {g : α → Option α} (hg : ∀ x y, Q x → g x = some y → R y) : ∀ (l r : List (Br α)), (∀ b ∈ l, Q b.p) → partsBy g l = some r → ∀ b ∈ r, R b.p
  | [], r, _, h => by rw [partsBy] at h; injection h with h; subst h; intro b hb; cases hb
  | c :: l, r, hq, h => by
    rw [partsBy] at h
    split at h
    · cases h
    · rename_i q hq'
      split at h
      · cases h
      · rename_i r' hr'
        injection h with h
        subst h
        intro b hb
        rw [List.mem_cons] at hb
        rcases hb with rfl | hb
        · exact hg c.p q (hq c (by simp)) hq'
        · exact parts_all hg l r' (fun c hc => hq c (by simp [hc])) hr' b hb
theorem part_shape (role : ByteArray) : ∀ (n : Nat) (p q : Pn n), planN n p → partN role n p = some q → shapeN n q := by
  intro n
  induction n with
  | zero => intro p q _ _; trivial
  | succ n ih =>
    intro p
    refine Pn.cases (P := fun p => ∀ q, planN (n + 1) p → partN role (n + 1) p = some q → shapeN (n + 1) q) (fun x q _ h => ?_) (fun x p q hp h => ?_) (fun t l q hp h => ?_) p
    · have h' : some (Pn.leaf x) = some q := h
      injection h' with h'; subst h'; trivial
    · have h' : (if idleL role (rowN (n + 1) (.loop x p)) then some (Pn.leaf none) else (partN role n p).map (Pn.loop x)) = some q := h
      have hp' : planN n p := hp
      split at h'
      · injection h' with h'
        subst h'
        trivial
      · cases hq : partN role n p with
        | none => rw [hq] at h'; cases h'
        | some q' =>
          rw [hq] at h'
          simp only [Option.map_some, Option.some.injEq] at h'
          subst h'
          exact ih p q' hp' hq
    · have h' : (match partsBy (partN role n) l with
        | none => none
        | some r => if role.toList == t.a.toList then some (Pn.talk ⟨5, noT, t.b⟩ r) else if role.toList == t.b.toList then some (.talk ⟨6, noT, t.a⟩ r) else
          match r with
          | [] => none
          | c :: r => (mergeAll (mergeN n) c.p r).map (upN n)) = some q := h
      have hp' : t.op = 3 ∧ (t.a.toList == t.b.toList) = false ∧ 1 ≤ l.length ∧ l.length ≤ 4 ∧ ∀ b ∈ l, planN n b.p := hp
      split at h'
      · cases h'
      · rename_i r hr
        have hall := parts_all (Q := planN n) (R := shapeN n) (fun x y hx hy => ih x y hx hy) l r hp'.2.2.2.2 hr
        have hrn : r ≠ [] := fun e => by have := (parts_sz (f := rowN n) (Q := planN n) (fun x y hx hy => part_sz role n x y hx hy) l r hp'.2.2.2.2 hr).2; rw [e] at this; have := hp'.2.2.1; simp at *; omega
        split at h'
        · injection h' with h'
          subst h'
          exact ⟨.inr ⟨.inl rfl, rfl⟩, hrn, hall⟩
        · split at h'
          · injection h' with h'
            subst h'
            exact ⟨.inr ⟨.inr rfl, rfl⟩, hrn, hall⟩
          · split at h'
            · cases h'
            · rename_i c r
              cases hm : mergeAll (mergeN n) c.p r with
              | none => rw [hm] at h'; cases h'
              | some z =>
                rw [hm] at h'
                simp only [Option.map_some, Option.some.injEq] at h'
                subst h'
                exact up_shape n z (mergeAll_all (Q := shapeN n) (merge_shape n) r c.p z (hall c (by simp)) (fun b hb => hall b (by simp [hb])) hm)
theorem row_leaf_by (x : Option ByteArray) (v : Value) (w : World) (h : leafAt x v) : RowBy v w (leafRow x) := by
  cases x with
  | none => exact row_end v w h
  | some x => exact row_var x v w h
theorem row_calls : ∀ (n : Nat) (p : Pn n), shapeN n p → RowCalls n p := by
  intro n
  induction n with
  | zero => intro p _ v w h _; exact row_leaf_by p v w h
  | succ n ih =>
    intro p
    refine Pn.cases (P := fun p => shapeN (n + 1) p → RowCalls (n + 1) p) (fun x _ v w h _ => row_leaf_by x v w h) (fun x q hq v w h hl => ?_) (fun t l hp v w h hl => ?_) p
    · obtain ⟨u, rfl, h⟩ := h
      rw [row_loop] at hl
      exact row_rec n q (ih q hq) x u w h (by simp only [List.length_cons] at hl; omega)
    · obtain ⟨sl, rfl, h⟩ := h
      have hp' : tkOk t ∧ l ≠ [] ∧ ∀ b ∈ l, shapeN n b.p := hp
      have hin : ∀ b ∈ l, RowCalls n b.p := fun b hb => ih b.p (hp'.2.2 b hb)
      rw [row_talk] at hl
      have hl' : (brsBy (rowN n) l).length ≤ 999 := by simp only [List.length_cons] at hl; omega
      obtain ⟨op, a, b⟩ := t
      rcases hp'.1 with h3 | ⟨h5 | h6, ha⟩
      · dsimp only at h3; subst h3
        exact row_msg n l hin a b sl w h hl'
      · dsimp only at h5 ha; subst h5; subst ha
        exact row_snd n l hin b sl w h hl'
      · dsimp only at h6 ha; subst h6; subst ha
        exact row_rcv n l hin b sl w h hl'
end Go.Proofs.YtaaeledleldllaaGreat
namespace Go.Proofs.YtaaeledleldllaaGreat
open Go.RowKit
attribute [local go_sem ↓] Go.wp_at_zero Go.wp_at_succ

def atB {α : Type} (t : ByteArray) (l : List (Br α)) : Int := match findB t l with
  | none => -1
  | some i => (i : Int)
theorem find_skip {α : Type} {t : ByteArray} : ∀ {l : List (Br α)} {k : Nat} {b : Br α}, (∀ j c, l[j]? = some c → j < k → (c.l.toList == t.toList) = false) → l[k]? = some b → (b.l.toList == t.toList) = true → findB t l = some k
  | [], k, b, _, hk, _ => by simp at hk
  | c :: l, 0, b, _, hk, h => by
    simp at hk
    subst hk
    rw [findB, if_pos h]
  | c :: l, k + 1, b, hn, hk, h => by
    have h0 := hn 0 c rfl (by omega)
    rw [findB, h0]
    rw [List.getElem?_cons_succ] at hk
    rw [find_skip (fun j d hj hjk => hn (j + 1) d (by rw [List.getElem?_cons_succ]; exact hj) (by omega)) hk h]
    rfl
theorem find_none {α : Type} {t : ByteArray} : ∀ {l : List (Br α)}, (∀ (j : Nat) (c : Br α), l[j]? = some c → (c.l.toList == t.toList) = false) → findB t l = none
  | [], _ => rfl
  | c :: l, hn => by
    rw [findB, hn 0 c rfl, find_none (fun j d hj => hn (j + 1) d (by rw [List.getElem?_cons_succ]; exact hj))]
    rfl
set_option maxRecDepth 100000 in
set_option maxHeartbeats 1000000 in
theorem branch_at (n : Nat) (t : ByteArray) (S : Nat → Prop) (l : List (Br (Pn n))) (v : Value) (w : World) (hs : BrS w S v l) (hl : l.length ≤ 1000) :
    Calls Tryz.prog 213 #[v, .string t] w fun e w' => e = .returned (.int .i64 (atB t l)) ∧ Below w.heap.size w w' := by
  obtain ⟨ao, cap, rfl, hc1, hc2, hr⟩ := hs
  have HR := hide hr
  obtain ⟨L, hL⟩ : ∃ L, l.length = L := ⟨_, rfl⟩
  rw [hL] at hc1 hl ⊢
  have HLL := hide hL
  clear hr hL
  go_enter Tryz.func213, Tryz.ntmps213
  go_wp2_with fail
  go_loopw [9] (fun i wr => ∃ k : Nat, k ≤ L ∧ i = .int .i64 k ∧ (∀ j c, l[j]? = some c → j < k → (c.l.toList == t.toList) = false) ∧ Below w.heap.size w wr) (fun i _ => L - (intOf i).toNat)
  case atStart => exact ⟨0, Nat.zero_le _, rfl, fun j _ _ h => absurd h (by omega), Below.refl _ _⟩
  case round =>
    obtain ⟨k, hk, rfl, hno, hbel⟩ := hrel
    have HNO := hide hno
    have HBEL := hide hbel
    have hzw := hbel.size
    clear hno
    by_cases hlt : k < L
    · obtain ⟨g, o, rfl, hg, hcells⟩ := HR.out (by rintro rfl; have := HLL.out; simp at this; omega)
      obtain ⟨b0, hb0⟩ : ∃ b0, l[k]? = some b0 := ⟨l[k]'(by rw [HLL.out]; exact hlt), List.getElem?_eq_getElem _⟩
      obtain ⟨k1, k2, u, k3, k4⟩ := hcells k b0 hb0
      obtain ⟨T, a, rfl⟩ := k4.shape
      have hgw : g < w.heap.size := World.block_lt_of_cell? w _ k1
      have e1 := (hbel.cell (p := ⟨g, o + k * 3, none⟩) hgw).trans k1
      have e2 := (hbel.cell (p := ⟨g, o + k * 3 + 1, none⟩) hgw).trans k2
      have e3 := (hbel.cell (p := ⟨g, o + k * 3 + 2, none⟩) hgw).trans k3
      have HB0 := hide hb0
      obtain ⟨bl, bs, bp⟩ := b0
      dsimp only at e1 e2
      clear hcells k1 k2 k3 k4 hb0 hbel
      cases heq : (bl.toList == t.toList)
      · go_wp2_with fail
        go_roundw
        case rel =>
          refine ⟨k + 1, hlt, by go_num, fun j c hj hjk => ?_, HBEL.out.trans ((malloc1 _ _).mono hzw)⟩
          by_cases hjk' : j = k
          · subst hjk'
            rw [HB0.out] at hj
            injection hj with hj
            subst hj
            exact heq
          · exact HNO.out j c hj (by omega)
        case measure => simp [intOf]; omega
      · go_wp2_with fail
        go_ret
        refine ⟨ret_int ?_, HBEL.out.trans ((malloc1 _ _).mono hzw)⟩
        rw [atB, find_skip HNO.out HB0.out heq]
    · go_wp2_with fail
      go_ret
      refine ⟨ret_int ?_, HBEL.out⟩
      rw [atB, find_none (fun j c hj => HNO.out j c hj (by have := (List.getElem?_eq_some_iff.1 hj).1; rw [HLL.out] at this; omega))]
end Go.Proofs.YtaaeledleldllaaGreat
namespace Go.Proofs.YtaaeledleldllaaGreat
open Go.RowKit
attribute [local go_sem ↓] Go.wp_at_zero Go.wp_at_succ

theorem nd_equal (a b : Nd) (W : World) : (Op.equalIn 10000 68 (.agg #[.int .i64 a.op, .string a.name, .string a.peer, .int .i64 a.many, .int .i64 a.sort]) (.agg #[.int .i64 b.op, .string b.name, .string b.peer, .int .i64 b.many, .int .i64 b.sort])).run Tryz.prog W = .ok (ndEq a b) W := by
  by_cases h1 : a.op = b.op
  · by_cases h2 : a.name.toList = b.name.toList
    · by_cases h3 : a.peer.toList = b.peer.toList
      · by_cases h4 : a.many = b.many
        · by_cases h5 : a.sort = b.sort
          all_goals
            go_simp
            simp [ndEq, h1, h2, h3, h4, h5]
        · go_simp
          simp [ndEq, h1, h2, h3, h4]
      · go_simp
        simp [ndEq, h1, h2, h3]
    · go_simp
      simp [ndEq, h1, h2]
  · go_simp
    simp [ndEq, h1]
theorem rowEq_len : ∀ {x y : List Nd}, x.length ≠ y.length → rowEq x y = false
  | [], [], h => absurd rfl h
  | [], _ :: _, _ => rfl
  | _ :: _, [], _ => rfl
  | a :: l, b :: r, h => by rw [rowEq, rowEq_len (fun e => h (by simp [e])), Bool.and_false]
theorem rowEq_no : ∀ {x y : List Nd} {k : Nat} (hx : k < x.length) (hy : k < y.length), ndEq x[k] y[k] = false → rowEq x y = false
  | a :: l, b :: r, 0, _, _, h => by simp only [List.getElem_cons_zero] at h; rw [rowEq, h, Bool.false_and]
  | a :: l, b :: r, k + 1, hx, hy, h => by
    simp only [List.getElem_cons_succ] at h
    rw [rowEq, rowEq_no (by simpa using hx) (by simpa using hy) h, Bool.and_false]
theorem rowEq_yes : ∀ {x y : List Nd}, x.length = y.length → (∀ k (hx : k < x.length) (hy : k < y.length), ndEq x[k] y[k] = true) → rowEq x y = true
  | [], [], _, _ => rfl
  | [], _ :: _, h, _ => by simp at h
  | _ :: _, [], h, _ => by simp at h
  | a :: l, b :: r, h, hall => by
    have h0 := hall 0 (by simp) (by simp)
    simp only [List.getElem_cons_zero] at h0
    rw [rowEq, h0, rowEq_yes (by simpa using h) (fun k hx hy => by have := hall (k + 1) (by simpa using hx) (by simpa using hy); simpa using this)]
    rfl
def NdRd (w : World) (v : Value) (l : List Nd) : Prop := ∃ ao cap, v = .slice ao l.length cap ∧ l.length ≤ 1000 ∧ (l ≠ [] → ∃ g o, ao = some ⟨g, o, none⟩ ∧ g < w.heap.size ∧ RowAt w g o l)
theorem row_of (w : World) (g : Nat) : ∀ (l : List Nd) (o : Nat), (∀ j (hj : j < l.length), NodeAt w g (o + j * 5) l[j]) → RowAt w g o l
  | [], _, _ => trivial
  | x :: l, o, hx => by
    refine ⟨by have := hx 0 (by simp); simpa using this, row_of w g l (o + 5) (fun j hj => ?_)⟩
    have := hx (j + 1) (by simpa using hj)
    rw [show o + (j + 1) * 5 = o + 5 + j * 5 by omega] at this
    simpa using this
theorem NdOwn.rd {w : World} {base : Nat} {v : Value} {l : List Nd} (h : NdOwn w base v l) (hl : l.length ≤ 1000) : NdRd w v l := by
  have H := h
  obtain ⟨_, hh⟩ := h
  rcases hh with ⟨rfl, h0⟩ | ⟨gb, cap, cur, rfl, hg, hblk, hc, hm, _⟩
  · have : l = [] := List.length_eq_zero_iff.1 h0
    subst this
    exact ⟨none, 0, rfl, hl, fun h => absurd rfl h⟩
  · refine ⟨_, cap, rfl, hl, fun _ => ⟨gb, 0, rfl, (Array.getElem?_eq_some_iff.1 hblk).1, row_of w gb l 0 (fun j hj => ?_)⟩⟩
    rw [Nat.zero_add]
    have e := fun i (hi : i < 5) (x : Value) (hx : (l[j].cells)[i]? = some x) => owns_cell H rfl (j * 5 + i) x ((flat_get Nd.cells 5 Nd.cells_len l j hj i hi).trans hx)
    exact ⟨e 0 (by omega) _ rfl, e 1 (by omega) _ rfl, e 2 (by omega) _ rfl, e 3 (by omega) _ rfl, e 4 (by omega) _ rfl⟩
theorem NdRd.on {w w' : World} {v : Value} {l : List Nd} (h : NdRd w v l) (hb : Below w.heap.size w w') : NdRd w' v l := by
  obtain ⟨ao, cap, e, h1, h2⟩ := h
  refine ⟨ao, cap, e, h1, fun hne => ?_⟩
  obtain ⟨g, o, e1, e2, e3⟩ := h2 hne
  exact ⟨g, o, e1, Nat.lt_of_lt_of_le e2 hb.size, e3.carry e2 hb⟩
set_option maxRecDepth 100000 in
set_option maxHeartbeats 2000000 in
theorem nds_equal (x y : List Nd) (v u : Value) (w : World) (hx : NdRd w v x) (hy : NdRd w u y) :
    Calls Tryz.prog 207 #[v, u] w fun e w' => e = .returned (.bool (rowEq x y)) ∧ Below w.heap.size w w' := by
  obtain ⟨ax, cx, rfl, hlx, hrx⟩ := hx
  obtain ⟨ay, cy, rfl, hly, hry⟩ := hy
  have HRX := hide hrx
  have HRY := hide hry
  obtain ⟨L, hL⟩ : ∃ L, x.length = L := ⟨_, rfl⟩
  obtain ⟨M, hM⟩ : ∃ M, y.length = M := ⟨_, rfl⟩
  rw [hL] at hlx ⊢
  rw [hM] at hly ⊢
  have HL := hide hL
  have HM := hide hM
  clear hrx hry hL hM
  by_cases hne : L = M
  · subst hne
    go_enter Tryz.func207, Tryz.ntmps207
    go_wp2_with fail
    go_loopw [13] (fun i wr => ∃ k : Nat, k ≤ L ∧ i = .int .i64 k ∧ (∀ j (h1 : j < x.length) (h2 : j < y.length), j < k → ndEq x[j] y[j] = true) ∧ Below w.heap.size w wr) (fun i _ => L - (intOf i).toNat)
    case atStart => exact ⟨0, Nat.zero_le _, rfl, fun j _ _ h => absurd h (by omega), Below.refl _ _⟩
    case round =>
      obtain ⟨k, hk, rfl, hall, hbel⟩ := hrel
      have HA := hide hall
      have HBEL := hide hbel
      clear hall
      by_cases hlt : k < L
      · have hkx : k < x.length := by rw [HL.out]; exact hlt
        have hky : k < y.length := by rw [HM.out]; exact hlt
        obtain ⟨b, o, rfl, hbB, hrow⟩ := HRX.out (by intro h; rw [h] at hkx; simp at hkx)
        obtain ⟨b', o', rfl, hbB', hrow'⟩ := HRY.out (by intro h; rw [h] at hky; simp at hky)
        have hn1 := (hrow.get k hkx).carry hbB hbel
        have hn2 := (hrow'.get k hky).carry hbB' hbel
        obtain ⟨x1, hx1⟩ : ∃ x1, x[k] = x1 := ⟨_, rfl⟩
        obtain ⟨y1, hy1⟩ : ∃ y1, y[k] = y1 := ⟨_, rfl⟩
        rw [hx1] at hn1
        rw [hy1] at hn2
        obtain ⟨c0, c1, c2, c3, c4⟩ := hn1
        obtain ⟨d0, d1, d2, d3, d4⟩ := hn2
        obtain ⟨r, hr⟩ : ∃ r, ndEq x1 y1 = r := ⟨_, rfl⟩
        have heq : ∀ W, (Op.equalIn 10000 68 (.agg #[.int .i64 x1.op, .string x1.name, .string x1.peer, .int .i64 x1.many, .int .i64 x1.sort]) (.agg #[.int .i64 y1.op, .string y1.name, .string y1.peer, .int .i64 y1.many, .int .i64 y1.sort])).run Tryz.prog W = .ok r W := fun W => by rw [nd_equal, hr]
        have HRR := hide hr
        have HX1 := hide hx1
        have HY1 := hide hy1
        clear hrow hrow' hr hx1 hy1 hbel
        cases r
        · go_wp2_with fail
          go_region
          go_wp2_with fail
          all_goals
            go_ret
            exact ⟨ret_bool (rowEq_no hkx hky (by rw [HX1.out, HY1.out]; exact HRR.out)), by first | exact HBEL.out | exact HBEL.out.drew⟩
        · go_wp2_with fail
          go_region
          go_wp2_with fail
          all_goals
            go_roundw
            case rel =>
              refine ⟨k + 1, hlt, by go_num, fun j h1 h2 hjk => ?_, by first | exact HBEL.out | exact HBEL.out.drew⟩
              by_cases hjk' : j = k
              · subst hjk'; rw [HX1.out, HY1.out]; exact HRR.out
              · exact HA.out j h1 h2 (by omega)
            case measure => simp [intOf]; omega
      · go_wp2_with fail
        go_ret
        exact ⟨ret_bool (rowEq_yes (by rw [HL.out, HM.out]) (fun j h1 h2 => HA.out j h1 h2 (by rw [HL.out] at h1; omega))), HBEL.out⟩
  · have HF : Hid (rowEq x y = false) := hide (rowEq_len (by rw [HL.out, HM.out]; exact hne))
    have hq : ((L : Int) == (M : Int)) = false := beq_eq_false_iff_ne.2 (by omega)
    go_enter Tryz.func207, Tryz.ntmps207
    go_wp2_with fail
    go_ret
    exact ⟨ret_bool HF.out, Below.refl _ _⟩
end Go.Proofs.YtaaeledleldllaaGreat
