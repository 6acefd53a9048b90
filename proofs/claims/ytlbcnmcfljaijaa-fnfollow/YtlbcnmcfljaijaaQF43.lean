import Derived.Test.YtlbcnmcfljaijaaQF41
import Derived.Test.YtlbcnmcfljaijaaQF42
import Derived.Deep.DeepCutAuto
import Derived.Deep.RegionHeld3
import Derived.Deep.RegionWith
namespace Go.Proofs.Ytlbcnmcfljaijaa
open Go.RowKit
set_option linter.unusedSimpArgs false
set_option linter.unusedVariables false
attribute [local go_sem ↓] Go.wp_at_zero Go.wp_at_succ

def roT : List ByteArray := [⟨#[97]⟩, ⟨#[98]⟩, ⟨#[99]⟩, ⟨#[97]⟩, ⟨#[98]⟩, ⟨#[100]⟩]
def roO : Obj := .cells #[.string ⟨#[97]⟩, .string ⟨#[98]⟩, .string ⟨#[99]⟩, .string ⟨#[97]⟩, .string ⟨#[98]⟩, .string ⟨#[100]⟩] 9
theorem ro_at (W : World) : TextsAt (W.alloc roO) (.slice (some ⟨W.heap.size, 0, none⟩) 6 6) roT :=
  texts_own (ls := roT) (World.ownsRow_lit (e := 9) (size := 1) (base := W.heap.size) W (roT.map Value.string).toArray 6 (Nat.le_refl _) (by simp [maxLen]) rfl) (by simp [roT])
theorem ro_small {x : ByteArray} (h : x ∈ roT) : x.size ≤ 20 := by
  simp only [roT, List.mem_cons, List.not_mem_nil, or_false] at h
  rcases h with rfl | rfl | rfl | rfl | rfl | rfl <;> decide
set_option maxRecDepth 100000 in
set_option maxHeartbeats 1000000 in
theorem role_any (sb : Nat) (ao : Option Addr) (len cap : Nat) (w : World) (hl : len ≤ 1048576) (h : Src w sb ao len cap) :
    Calls Try.prog 30 #[.pointer (some ⟨sb, 0, none⟩)] w fun e w' => ∃ x : ByteArray, e = .returned (.string x) ∧ x.size ≤ 20 ∧ Src w' sb ao len cap ∧ w.grownBy w' (some sb) := by
  have hsb := h.lt
  have HH := hide (src_alloc h roO)
  clear h
  go_enter Try.func30, Try.ntmps30
  go_wp2_with (go_at_call 31; refine (pick_any sb ao len cap roT (.slice (some ⟨w.heap.size, 0, none⟩) 6 6) (w.alloc roO) hl (by simp [roT]) (by simp [roT]) (ro_at w) (by simp [vblocks, cellBlocks]; omega) HH.out).mono ?_; rintro e w1 ⟨x, hx, rfl, hs, hg⟩; have HX := hide (ro_small hx); have HS := hide hs; have HG := hide (grown_trans (grown_alloc w roO (some sb)) hg); clear hs hg hx)
  go_ret
  exact ⟨x, rfl, HX.out, HS.out, HG.out⟩
structure MpAt (w wr : World) (sb : Nat) (ao : Option Addr) (len cap : Nat) (v : Value) (l : List Nd) : Prop where
  rd : RdW wr (btF w.heap.size wr) v l
  ok : ∀ n ∈ l, n.fit
  src : Src wr sb ao len cap
  ap : Apart w wr [sb]
theorem MpAt.drawn {w wr wn : World} {sb : Nat} {ao : Option Addr} {len cap : Nat} {v : Value} {l : List Nd} (h : MpAt w wr sb ao len cap v l) (hsb : sb < w.heap.size) (hs : Src wn sb ao len cap) (hg : wr.grownBy wn (some sb)) : MpAt w wn sb ao len cap v l := by
  have hA := Apart.grown hg
  have hk : ∀ g, btF w.heap.size wr g → wn.heap[g]? = wr.heap[g]? := fun g hg => hA.block g hg.2.1 (by simp; have := hg.1; omega)
  exact ⟨h.rd.carry hk (fun g hg => ⟨hg.1, Nat.lt_of_lt_of_le hg.2.1 hA.size, fun o => (World.frozen?_of_block (a := ⟨g, o, none⟩) (hk g hg)).trans (hg.2.2 o)⟩), h.ok, hs, (h.ap.trans hA).sub (by simp)⟩
theorem MpAt.below {w wr wn : World} {sb : Nat} {ao : Option Addr} {len cap : Nat} {v : Value} {l : List Nd} (h : MpAt w wr sb ao len cap v l) (hb : Below wr.heap.size wr wn) : MpAt w wn sb ao len cap v l :=
  ⟨h.rd.carry (fun g hg => hb.block g hg.2.1) (fun g hg => hg.go hb), h.ok, h.src.apart (below_apart hb) (by simp), h.ap.then hb⟩
theorem row_set {w : World} {g i : Nat} (u : Value) (n : Nd) (hi : i < 5) : ∀ {l : List Nd} {o : Nat} (k : Nat) (hk : k < l.length), RowAt w g o l → n.cells = (l[k]).cells.set i u → RowAt (w.setCell ⟨g, o + k * 5 + i, none⟩ u) g o (l.set k n) := by
  intro l o k hk h hn
  have hget : ∀ j (hj : j < l.length), ∀ q, q < 5 → w.cell? ⟨g, o + j * 5 + q, none⟩ = (l[j]).cells[q]? := fun j hj q hq => by
    have hr := h.get j hj
    obtain ⟨c0, c1, c2, c3, c4⟩ := hr
    match q, hq with
    | 0, _ => exact c0
    | 1, _ => exact c1
    | 2, _ => exact c2
    | 3, _ => exact c3
    | 4, _ => exact c4
    | q + 5, h => omega
  have hcell : ∀ j (hj : j < l.length), ∀ q, q < 5 → (w.setCell ⟨g, o + k * 5 + i, none⟩ u).cell? ⟨g, o + j * 5 + q, none⟩ = ((l.set k n)[j]'(by simpa using hj)).cells[q]? := fun j hj q hq => by
    by_cases hjk : j = k
    · subst hjk
      by_cases hqi : q = i
      · subst hqi
        have h0 := hget j hj q hq
        obtain ⟨x, hx⟩ : ∃ x, (l[j]).cells[q]? = some x := ⟨(l[j]).cells[q]'(by rw [Nd.cells_len]; exact hq), List.getElem?_eq_getElem (by rw [Nd.cells_len]; exact hq)⟩
        rw [hx] at h0
        rw [World.cell?_setCell_same _ _ _ h0, List.getElem_set_self, hn, List.getElem?_set_self (by rw [Nd.cells_len]; exact hq)]
      · rw [World.cell?_setCell_other _ _ _ _ (by intro e; injection e with _ e2; omega), hget j hj q hq, List.getElem_set_self, hn, List.getElem?_set_ne (by omega)]
    · rw [World.cell?_setCell_other _ _ _ _ (by intro e; injection e with _ e2; omega), hget j hj q hq, List.getElem_set_ne (by omega)]
  refine row_of _ g _ o (fun j hj => ?_)
  have hj' : j < l.length := by simpa using hj
  exact ⟨hcell j hj' 0 (by omega), hcell j hj' 1 (by omega), hcell j hj' 2 (by omega), hcell j hj' 3 (by omega), hcell j hj' 4 (by omega)⟩
theorem MpAt.shape {w wr : World} {sb : Nat} {ao : Option Addr} {len cap : Nat} {v : Value} {l : List Nd} (h : MpAt w wr sb ao len cap v l) : ∃ p c, v = .slice p l.length c := by
  obtain ⟨p, c, e, -⟩ := h.rd
  exact ⟨p, c, e⟩
theorem MpAt.at_ {w wr : World} {sb : Nat} {ao : Option Addr} {len cap : Nat} {v : Value} {l : List Nd} (h : MpAt w wr sb ao len cap v l) (hl : 0 < l.length) : ∃ g o c, v = .slice (some ⟨g, o, none⟩) l.length c ∧ l.length ≤ c ∧ c ≤ maxLen ∧ btF w.heap.size wr g ∧ RowAt wr g o l := by
  obtain ⟨p, c, e, h1, h2, -, h4⟩ := h.rd
  obtain ⟨g, o, e2, hg, hr⟩ := h4 (by intro e; rw [e] at hl; simp at hl)
  exact ⟨g, o, c, by rw [e, e2], h1, h2, hg, hr⟩
theorem MpAt.row {w wr : World} {sb : Nat} {ao : Option Addr} {len cap g o c : Nat} {l : List Nd} (h : MpAt w wr sb ao len cap (.slice (some ⟨g, o, none⟩) l.length c) l) (hl : 0 < l.length) : btF w.heap.size wr g ∧ RowAt wr g o l := by
  obtain ⟨g', o', c', e, -, -, h1, h2⟩ := h.at_ hl
  injection e with e1 _ _
  injection e1 with e1
  injection e1 with e1 e2
  subst e1 e2
  exact ⟨h1, h2⟩
theorem MpAt.put {w wr : World} {sb : Nat} {ao : Option Addr} {len cap g o c : Nat} {l : List Nd} (h : MpAt w wr sb ao len cap (.slice (some ⟨g, o, none⟩) l.length c) l) (hsb : sb < w.heap.size) (k i j : Nat) (hk : k < l.length) (hi : i < 5) (hj : j = o + k * 5 + i) (u : Value) (n : Nd) (hn : n.cells = (l[k]).cells.set i u) (hd : n.fit) : MpAt w (wr.setCell ⟨g, j, none⟩ u) sb ao len cap (.slice (some ⟨g, o, none⟩) l.length c) (l.set k n) := by
  subst hj
  obtain ⟨hg, hr⟩ := h.row (by omega)
  obtain ⟨p, c', e, h1, h2, h3, -⟩ := h.rd
  injection e with e1 _ e3
  subst e3
  have hA := setCell_apart wr g (o + k * 5 + i) u
  refine ⟨⟨some ⟨g, o, none⟩, c, by rw [List.length_set], by rw [List.length_set]; exact h1, h2, by rw [List.length_set]; exact h3, fun _ => ⟨g, o, rfl, ⟨hg.1, by simpa using hg.2.1, fun q => by rw [World.frozen?_setCell]; exact hg.2.2 q⟩, row_set u n hi k hk hr hn⟩⟩, fun m hm => ?_, h.src.apart hA (fun b hb => by simp at hb; have := hg.1; omega), h.ap.new hA (fun b hb => by simp at hb; have := hg.1; omega)⟩
  rcases List.mem_or_eq_of_mem_set hm with hm | rfl
  · exact h.ok m hm
  · exact hd
theorem MpAt.sl {w wr : World} {sb : Nat} {ao : Option Addr} {len cap : Nat} {v : Value} {l : List Nd} (h : MpAt w wr sb ao len cap v l) : SlAt wr wr.heap.size v l := by
  obtain ⟨p, c, e, h1, h2, h3, h4⟩ := h.rd
  refine ⟨p, c, e, h1, ⟨by unfold maxLen at h2; omega, by omega⟩, fun hne => ?_⟩
  obtain ⟨g, o, e2, hg, hr⟩ := h4 hne
  exact ⟨g, o, e2, hg.2.1, hr⟩
theorem MpAt.cells {w wr : World} {sb : Nat} {ao : Option Addr} {len cap g o c : Nat} {l : List Nd} (h : MpAt w wr sb ao len cap (.slice (some ⟨g, o, none⟩) l.length c) l) (k : Nat) (hk : k < l.length) : (wr.cell? ⟨g, o + k * 5, none⟩ = some (.int .i64 l[k].op) ∧ wr.cell? ⟨g, o + k * 5 + 1, none⟩ = some (.string l[k].name) ∧ wr.cell? ⟨g, o + k * 5 + 3, none⟩ = some (.int .i64 l[k].many)) ∧ ∀ j, wr.frozen? ⟨g, j, none⟩ = false := by
  obtain ⟨hg, hr⟩ := h.row (by omega)
  obtain ⟨c0, c1, c2, c3, c4⟩ := hr.get k hk
  exact ⟨⟨c0, c1, c3⟩, fun j => hg.2.2 j⟩
theorem po_fit {ns T : List Nd} {role : ByteArray} {C : Int} (h : PoIs ns role T C) (hf : ∀ n ∈ ns, n.fit) : (∀ n ∈ T, n.fit) ∧ T.length ≤ ns.length := by
  rcases h with ⟨_, rfl, _⟩ | ⟨_, _, ⟨_, rfl, _⟩ | ⟨_, p, e, hp, _, ⟨_, rfl, _⟩ | ⟨z, hz, rfl, _⟩⟩⟩
  · exact ⟨fun n hn => (by cases hn), Nat.zero_le _⟩
  · exact ⟨fun n hn => (by cases hn), Nat.zero_le _⟩
  · exact ⟨fun n hn => (by cases hn), Nat.zero_le _⟩
  · obtain ⟨h1, h2⟩ := part_sz role 10 p z hp hz
    rw [← e] at h1 h2
    exact ⟨h2 hf, h1⟩
theorem field_part (p : Option Addr) (n c : Nat) (C : Int) (W : World) : Sem.run Try.prog (Instr.field 63 (.agg #[.slice p n c, .int .i64 C]) 0) W = .ok (.slice p n c) W := by kernel_rfl
end Go.Proofs.Ytlbcnmcfljaijaa
namespace Go.Proofs.Ytlbcnmcfljaijaa
open Go.RowKit
set_option linter.unusedSimpArgs false
set_option linter.unusedVariables false

theorem MmAt.keep {w wr wn : World} {sb : Nat} {ao : Option Addr} {len cap : Nat} {sv ev : Value} {m : Mach} {l : List Nat} (h : MmAt w wr sb ao len cap sv ev m) (hsb : sb < w.heap.size) (ha : Apart wr wn l) (hl : ∀ b ∈ l, w.heap.size ≤ b) (h1 : ∀ b ∈ vblocks sv, b ∉ l) (h2 : ∀ b ∈ vblocks ev, b ∉ l) : MmAt w wn sb ao len cap sv ev m :=
  ⟨owns_keep h.so ha h1, owns_keep h.eo ha h2, h.sf, h.ef, h.sl, h.el, h.ds, h.src.apart ha (fun b hb => by have := hl b hb; omega), h.ap.new ha hl⟩
theorem MmAt.up {w w4 w5 : World} {sb : Nat} {ao : Option Addr} {len cap : Nat} {sv ev : Value} {m : Mach} (h : MmAt w4 w5 sb ao len cap sv ev m) (hA : Apart w w4 [sb]) : MmAt w w5 sb ao len cap sv ev m :=
  ⟨owns_down h.so hA.size, owns_down h.eo hA.size, h.sf, h.ef, h.sl, h.el, h.ds, h.src, (hA.trans h.ap).sub (by simp)⟩
theorem mem_setE {l : List REdge} (h : ∀ n ∈ l, n.fit) (k : Nat) {n : REdge} (hn : n.fit) : ∀ m ∈ l.set k n, m.fit := fun m hm => by
  rcases List.mem_or_eq_of_mem_set hm with hm | rfl
  · exact h m hm
  · exact hn
theorem flat_setE (u : Value) (n : REdge) (i : Nat) (hi : i < 4) : ∀ (l : List REdge) (k : Nat) (hk : k < l.length), n.cells = (l[k]).cells.set i u → (l.set k n).flatMap REdge.cells = (l.flatMap REdge.cells).set (k * 4 + i) u
  | x :: l, 0, _, hn => by
    simp only [List.set_cons_zero, List.flatMap_cons]
    rw [List.set_append_left _ _ (by rw [REdge.cells_len]; omega)]
    rw [show n.cells = _ from hn]
    simp
  | x :: l, k + 1, hk, hn => by
    simp only [List.set_cons_succ, List.flatMap_cons]
    rw [flat_setE u n i hi l k (by simpa using hk) (by simpa using hn), List.set_append_right _ _ (by rw [REdge.cells_len]; omega), REdge.cells_len]
    congr 2
    omega
theorem MmAt.put {w wr : World} {sb : Nat} {ao : Option Addr} {len cap g c : Nat} {sv : Value} {m : Mach} (h : MmAt w wr sb ao len cap sv (.slice (some ⟨g, 0, none⟩) m.edges.length c) m) (hsb : sb < w.heap.size) (k i j : Nat) (hk : k < m.edges.length) (hi : i < 4) (hj : j = k * 4 + i) (n : REdge) (u : Value) (hn : n.cells = (m.edges[k]).cells.set i u) (hd : n.fit) : MmAt w (wr.setCell ⟨g, j, none⟩ u) sb ao len cap sv (.slice (some ⟨g, 0, none⟩) m.edges.length c) ⟨m.states, m.edges.set k n, m.start⟩ := by
  subst hj
  have hlo := (owns_fresh h.eo).lo g (by simp [vblocks, cellBlocks])
  have hds := h.ds
  refine ⟨owns_keep h.so (setCell_apart wr g (k * 4 + i) u) (fun b hb hm => ?_), ?_, h.sf, mem_setE h.ef k hd, h.sl, by rw [List.length_set]; exact h.el, h.ds, h.src.apart (setCell_apart wr g (k * 4 + i) u) (fun b hb => by simp at hb; omega), h.ap.new (setCell_apart wr g (k * 4 + i) u) (fun b hb => by simp at hb; omega)⟩
  · exact hds b hb (by simp [vblocks, cellBlocks]; simpa using hm)
  · unfold REdgeOwn
    rw [List.length_set, flat_setE u n i hi m.edges k hk hn]
    exact (World.ownsRow.stored h.eo _ u).1
theorem MmAt.starts {w wr : World} {sb : Nat} {ao : Option Addr} {len cap : Nat} {sv ev : Value} {m : Mach} (h : MmAt w wr sb ao len cap sv ev m) (z : Int) : MmAt w wr sb ao len cap sv ev ⟨m.states, m.edges, z⟩ := ⟨h.so, h.eo, h.sf, h.ef, h.sl, h.el, h.ds, h.src, h.ap⟩
def mcO : Obj := .cells #[.slice none 0 0, .slice none 0 0, .int .i64 0] 26
structure LmAt (w wr : World) (sb : Nat) (ao : Option Addr) (len cap rb mb : Nat) (sv ev : Value) (m : Mach) : Prop where
  mm : MmAt w wr sb ao len cap sv ev m
  bx : BoxL wr mb [sv, ev, .int .i64 m.start]
  rx : BoxL wr rb [.slice none 0 0, .slice none 0 0, .int .i64 0]
  ns : ∀ b ∈ vblocks sv, b ≠ mb ∧ b ≠ rb
  ne : ∀ b ∈ vblocks ev, b ≠ mb ∧ b ≠ rb
  ap : rb ≠ mb
  lr : w.heap.size ≤ rb
  lb : w.heap.size ≤ mb
theorem LmAt.drawn {w wr wn : World} {sb : Nat} {ao : Option Addr} {len cap rb mb : Nat} {sv ev : Value} {m : Mach} (h : LmAt w wr sb ao len cap rb mb sv ev m) (hsb : sb < w.heap.size) (hs : Src wn sb ao len cap) (hg : wr.grownBy wn (some sb)) : LmAt w wn sb ao len cap rb mb sv ev m :=
  ⟨h.mm.drawn hsb hs hg, h.bx.keep (Apart.grown hg) (by have := h.lb; simp; omega), h.rx.keep (Apart.grown hg) (by have := h.lr; simp; omega), h.ns, h.ne, h.ap, h.lr, h.lb⟩
theorem LmAt.below {w wr wn : World} {sb : Nat} {ao : Option Addr} {len cap rb mb : Nat} {sv ev : Value} {m : Mach} (h : LmAt w wr sb ao len cap rb mb sv ev m) (hb : Below wr.heap.size wr wn) : LmAt w wn sb ao len cap rb mb sv ev m :=
  ⟨h.mm.below hb, h.bx.keep (below_apart hb) (by simp), h.rx.keep (below_apart hb) (by simp), h.ns, h.ne, h.ap, h.lr, h.lb⟩
theorem lm_new {w W : World} {sb : Nat} {ao : Option Addr} {len cap rb : Nat} {sv ev : Value} {m : Mach} (h : MmAt w W sb ao len cap sv ev m) (hsb : sb < w.heap.size) (hr : BoxL W rb [.slice none 0 0, .slice none 0 0, .int .i64 0]) (hlr : w.heap.size ≤ rb) (hs : ∀ b ∈ vblocks sv, b ≠ rb) (he : ∀ b ∈ vblocks ev, b ≠ rb) :
    LmAt w (W.alloc (.cells #[sv, ev, .int .i64 m.start] 26)) sb ao len cap rb W.heap.size sv ev m := by
  have hsz := h.ap.size
  have hfs := (owns_fresh h.so).hi
  have hfe := (owns_fresh h.eo).hi
  have hrl := hr.lt
  exact ⟨h.below (malloc1 W _), BoxL.new W [sv, ev, .int .i64 m.start] 26, hr.keep (below_apart (malloc1 W _)) (by simp), fun b hb => ⟨by have := hfs b hb; omega, hs b hb⟩, fun b hb => ⟨by have := hfe b hb; omega, he b hb⟩, by omega, hlr, hsz⟩
theorem LmAt.putE {w wr : World} {sb : Nat} {ao : Option Addr} {len cap rb mb g c : Nat} {sv : Value} {m : Mach} (h : LmAt w wr sb ao len cap rb mb sv (.slice (some ⟨g, 0, none⟩) m.edges.length c) m) (hsb : sb < w.heap.size) (k i j : Nat) (hk : k < m.edges.length) (hi : i < 4) (hj : j = k * 4 + i) (n : REdge) (u : Value) (hn : n.cells = (m.edges[k]).cells.set i u) (hd : n.fit) : LmAt w (wr.setCell ⟨g, j, none⟩ u) sb ao len cap rb mb sv (.slice (some ⟨g, 0, none⟩) m.edges.length c) ⟨m.states, m.edges.set k n, m.start⟩ := by
  obtain ⟨hg1, hg2⟩ := h.ne g (by simp [vblocks, cellBlocks])
  exact ⟨h.mm.put hsb k i j hk hi hj n u hn hd, h.bx.keep (setCell_apart wr g j u) (by simp; omega), h.rx.keep (setCell_apart wr g j u) (by simp; omega), h.ns, h.ne, h.ap, h.lr, h.lb⟩
theorem LmAt.putS {w wr : World} {sb : Nat} {ao : Option Addr} {len cap rb mb : Nat} {sv ev : Value} {m : Mach} (h : LmAt w wr sb ao len cap rb mb sv ev m) (hsb : sb < w.heap.size) (z : Int) : LmAt w (wr.setCell ⟨mb, 2, none⟩ (.int .i64 z)) sb ao len cap rb mb sv ev ⟨m.states, m.edges, z⟩ :=
  ⟨(h.mm.keep hsb (setCell_apart wr mb 2 _) (fun b hb => by simp at hb; have := h.lb; omega) (fun b hb hm => by simp at hm; exact (h.ns b hb).1 hm) (fun b hb hm => by simp at hm; exact (h.ne b hb).1 hm)).starts z, h.bx.set 2 (by simp) _, h.rx.keep (setCell_apart wr mb 2 _) (by have := h.ap; simpa using this), h.ns, h.ne, h.ap, h.lr, h.lb⟩
theorem LmAt.done {w wr : World} {sb : Nat} {ao : Option Addr} {len cap rb mb : Nat} {sv ev : Value} {m : Mach} (h : LmAt w wr sb ao len cap rb mb sv ev m) (hsb : sb < w.heap.size) :
    MmAt w (((wr.setCell ⟨rb, 0, none⟩ sv).setCell ⟨rb, 1, none⟩ ev).setCell ⟨rb, 2, none⟩ (.int .i64 m.start)) sb ao len cap sv ev m ∧ BoxL (((wr.setCell ⟨rb, 0, none⟩ sv).setCell ⟨rb, 1, none⟩ ev).setCell ⟨rb, 2, none⟩ (.int .i64 m.start)) rb [sv, ev, .int .i64 m.start] :=
  ⟨h.mm.keep hsb (((setCell_apart wr rb 0 sv).setCell 1 ev).setCell 2 _) (fun b hb => by simp at hb; have := h.lr; omega) (fun b hb hm => by simp at hm; exact (h.ns b hb).2 hm) (fun b hb hm => by simp at hm; exact (h.ne b hb).2 hm), ((h.rx.set 0 (by simp) sv).set 1 (by simp) ev).set 2 (by simp) _⟩
theorem field_mach (p : Option Addr) (n c : Nat) (q : Option Addr) (k d : Nat) (z C : Int) (W : World) : Sem.run Try.prog (Instr.field 59 (.agg #[.slice p n c, .slice q k d, .int .i64 z, .int .i64 C]) 0) W = .ok (.agg #[.slice p n c, .slice q k d, .int .i64 z]) W := by kernel_rfl
end Go.Proofs.Ytlbcnmcfljaijaa
namespace Go.Proofs.Ytlbcnmcfljaijaa
open Go.RowKit
set_option linter.unusedSimpArgs false
set_option linter.unusedVariables false
attribute [local go_sem ↓] Go.wp_at_zero Go.wp_at_succ

def MqAns (w w' : World) (e : Ending) (sb : Nat) (ao : Option Addr) (len cap : Nat) : Prop := ∃ sv ev m, e = .returned (.agg #[sv, ev, .int .i64 m.start]) ∧ MmAt w w' sb ao len cap sv ev m
theorem mq_of {w w3 w4 : World} {sb : Nat} {ao : Option Addr} {len cap : Nat} {T : List Nd} {sv ev : Value} (hA : Apart w w3 [sb]) (hs : Src w3 sb ao len cap) (hT : T.length ≤ 14) (hf : ∀ n ∈ T, n.fit) (h1 : RStateOwn w4 w3.heap.size sv (moT T).states) (h2 : REdgeOwn w4 w3.heap.size ev (moT T).edges) (h3 : ∀ b ∈ vblocks sv, b ∉ vblocks ev) (hb : Below w3.heap.size w3 w4) : MmAt w w4 sb ao len cap sv ev (moT T) := by
  obtain ⟨f1, f2, f3, f4⟩ := moT_fit hf
  exact ⟨owns_down h1 hA.size, owns_down h2 hA.size, f1, f2, by omega, by omega, h3, hs.apart (below_apart hb) (by simp), hA.then hb⟩
def lbT : List ByteArray := [⟨#[122]⟩, ⟨#[108]⟩, ⟨#[65]⟩]
def lbO : Obj := .cells #[.string ⟨#[122]⟩, .string ⟨#[108]⟩, .string ⟨#[65]⟩] 9
theorem lb_at (W : World) : TextsAt (W.alloc lbO) (.slice (some ⟨W.heap.size, 0, none⟩) 3 3) lbT :=
  texts_own (ls := lbT) (World.ownsRow_lit (e := 9) (size := 1) (base := W.heap.size) W (lbT.map Value.string).toArray 3 (Nat.le_refl _) (by simp [maxLen]) rfl) (by simp [lbT])
theorem lb_small {x : ByteArray} (h : x ∈ lbT) : x.size ≤ 20 := by
  simp only [lbT, List.mem_cons, List.not_mem_nil, or_false] at h
  rcases h with rfl | rfl | rfl <;> decide
theorem lm_first {w w4 : World} {sb : Nat} {ao : Option Addr} {len cap : Nat} {sv ev : Value} {m : Mach} (h : MmAt (w.alloc mcO) w4 sb ao len cap sv ev m) (hA : Apart w (w.alloc mcO) [sb]) (hr : BoxL (w.alloc mcO) w.heap.size [.slice none 0 0, .slice none 0 0, .int .i64 0]) (hsb : sb < w.heap.size) :
    LmAt w (w4.alloc (.cells #[sv, ev, .int .i64 m.start] 26)) sb ao len cap w.heap.size w4.heap.size sv ev m :=
  lm_new (h.up hA) hsb (hr.keep h.ap (by simp; omega)) (Nat.le_refl _) (fun b hb => by have := (owns_fresh h.so).lo b hb; simp at this; omega) (fun b hb => by have := (owns_fresh h.eo).lo b hb; simp at this; omega)
theorem owns_at {w : World} {base e size n c : Nat} {p : Option Addr} {xs : List Value} (h : w.ownsRow base e size (.slice p n c) n xs) (hn : 0 < n) : ∃ g, p = some ⟨g, 0, none⟩ ∧ n ≤ c := by
  rcases h.2 with ⟨h', h0⟩ | ⟨g', cap', cur, h', h1, h2, h3, _⟩
  · omega
  · injection h' with e1 _ e3
    exact ⟨g', e1, by omega⟩
theorem edge_cells {w wr : World} {sb : Nat} {ao : Option Addr} {len cap g c : Nat} {sv : Value} {m : Mach} (h : MmAt w wr sb ao len cap sv (.slice (some ⟨g, 0, none⟩) m.edges.length c) m) (k : Nat) (hk : k < m.edges.length) : (wr.cell? ⟨g, k * 4 + 1, none⟩ = some (.string m.edges[k].label) ∧ wr.cell? ⟨g, k * 4 + 2, none⟩ = some (.int .i64 m.edges[k].sort) ∧ wr.cell? ⟨g, k * 4 + 3, none⟩ = some (.int .i64 m.edges[k].dst)) ∧ ∀ j, wr.frozen? ⟨g, j, none⟩ = false := by
  have hc : ∀ i (hi : i < 4) (u : Value), m.edges[k].cells[i]? = some u → wr.cell? ⟨g, k * 4 + i, none⟩ = some u := fun i hi u hu => owns_cell h.eo rfl _ _ ((flat_get REdge.cells 4 REdge.cells_len m.edges k hk i hi).trans hu)
  exact ⟨⟨hc 1 (by omega) _ rfl, hc 2 (by omega) _ rfl, hc 3 (by omega) _ rfl⟩, fun j => (owns_fresh h.eo).free g (by simp [vblocks, cellBlocks]) j⟩
theorem mq_res {W : World} {rb : Nat} {p q : Option Addr} {a b c d : Nat} {z : Int} (h : BoxL W rb [.slice p a b, .slice q c d, .int .i64 z]) {tmps : Array Value} (hp : tmps[2]? = some (.pointer (some ⟨rb, 0, none⟩))) : Sem.run Try.prog (results Try.f13 tmps) W = .ok (.agg #[.slice p a b, .slice q c d, .int .i64 z]) W := by
  have b0 := h.cell 0 _ rfl
  have b1 := h.cell 1 _ rfl
  have b2 := h.cell 2 _ rfl
  simp [results, Try.results13, go_sem, b0, b1, b2, hp]
set_option maxRecDepth 100000 in
set_option maxHeartbeats 4000000 in
theorem machine_any (sb : Nat) (ao : Option Addr) (len cap : Nat) (w : World) (hl : len ≤ 1048576) (h : Src w sb ao len cap) :
    Calls Try.prog 13 #[.pointer (some ⟨sb, 0, none⟩)] w fun e w' => MqAns w w' e sb ao len cap := by
  have hsb0 := h.lt
  have HH := hide (src_alloc h mcO)
  have HAW : Hid (Apart w (w.alloc mcO) [sb]) := hide ((below_apart (malloc1 w mcO)).sub (by simp))
  have HRX : Hid (BoxL (w.alloc mcO) w.heap.size [.slice none 0 0, .slice none 0 0, .int .i64 0]) := hide (BoxL.new w [.slice none 0 0, .slice none 0 0, .int .i64 0] 26)
  have hsb : sb < (w.alloc mcO).heap.size := HH.out.lt
  have HN : Hid (∀ (m : Int) w1, 1 ≤ m → m ≤ 100 → Src w1 sb ao len cap → Calls Try.prog 14 #[.pointer (some ⟨sb, 0, none⟩), .int .i64 m] w1 fun e w' => ∃ r : Int, e = .returned (.int .i64 r) ∧ 0 ≤ r ∧ r < m ∧ Src w' sb ao len cap ∧ w1.grownBy w' (some sb)) := hide (fun m w1 h1 h2 hs => n_pos sb ao len cap m w1 h1 (by omega) hl hs)
  clear h
  go_enter Try.func13, Try.ntmps13
  go_wp2_with (first
    | (go_at_call 29; refine (plan_any sb ao len cap (w.alloc mcO) hl HH.out).mono ?_; rintro e w1 ⟨v1, l1, rfl, hl1, hm1⟩; have HM1 := hide hm1; obtain ⟨p1, c1, rfl⟩ := owns_shape hm1.own; clear hm1)
    | (go_at_call 30; refine (role_any sb ao len cap w1 hl HM1.out.src).mono ?_; rintro e w2 ⟨x, rfl, hx, hs, hg⟩; have HM2 := hide (HM1.out.drawn hsb hs hg); have HX : Hid (x.size ≤ maxLen) := hide (by unfold maxLen; omega); clear hs hg hx)
    | (go_at_call 28; obtain ⟨T, C, hpo, -⟩ := po_ex l1 x; refine (s_partOfF l1 x T C hpo _ w2 (fun n hn => (HM2.out.ok n hn).fits) HX.out (own_slat HM2.out.own (by omega))).mono ?_; rintro e w3 ⟨v3, rfl, hr3, hb3⟩; have hfit := po_fit hpo (fun n hn => (HM2.out.ok n hn).fits); have hT : T.length ≤ 14 := Nat.le_trans hfit.2 hl1; have HM3 : Hid (MpAt (w.alloc mcO) w3 sb ao len cap v3 T) := hide ⟨hr3.up (fun g hg => ⟨Nat.le_trans HM2.out.ap.size hg.1, hg.2⟩), hfit.1, (HM2.out.below hb3).src, (HM2.out.below hb3).ap⟩; obtain ⟨p3, c3, rfl⟩ := HM3.out.shape; have hf0 := field_part p3 T.length c3 C; clear hr3 hb3 hfit hpo)
    | (go_at_call 27; refine (s_machineOf T _ w3 HM3.out.ok HM3.out.sl).mono ?_; rintro e w4 ⟨⟨sv, ev, rfl, hs4, he4, hd4⟩, hb4⟩; have HM4 := hide (mq_of HM3.out.ap HM3.out.src hT HM3.out.ok hs4 he4 hd4 hb4); obtain ⟨m, hm⟩ : ∃ m, moT T = m := ⟨_, rfl⟩; rw [hm] at HM4 hs4 he4 ⊢; obtain ⟨ps, cs, rfl⟩ := owns_shape hs4; obtain ⟨pe, ce, rfl⟩ := owns_shape he4; have hf1 := field_mach ps m.states.length cs pe m.edges.length ce m.start (moC T); have HL5 := hide (lm_first HM4.out HAW.out HRX.out hsb0); have b0 := HL5.out.bx.cell 0 _ rfl; have b1 := HL5.out.bx.cell 1 _ rfl; have b2 := HL5.out.bx.cell 2 _ rfl; have hel : m.edges.length ≤ 40 := HM4.out.el; have hsl : m.states.length ≤ 40 := HM4.out.sl; have HE4 := hide he4; clear hs4 he4 hd4 hb4 hm; unfold moV)
    | (go_at_call 17; refine (n_one sb ao len cap 5 _ (by omega) (by omega) hl HL5.out.mm.src).mono ?_; rintro e w6 ⟨b6, rfl, hs, hg⟩; have HL6 := hide (HL5.out.drawn hsb0 hs hg); have c0 := HL6.out.bx.cell 0 _ rfl; have c1 := HL6.out.bx.cell 1 _ rfl; have c2 := HL6.out.bx.cell 2 _ rfl; have r0 := HL6.out.rx.cell 0 _ rfl; have r1 := HL6.out.rx.cell 1 _ rfl; have r2 := HL6.out.rx.cell 2 _ rfl; have rz := HL6.out.rx.fz; have bz := HL6.out.bx.fz; clear hs hg b0 b1 b2; by_cases hne : 0 < m.edges.length <;> cases b6))
  · refine bodyPost_ret (v := .agg #[.slice ps m.states.length cs, .slice pe m.edges.length ce, .int .i64 m.start]) ?_ rfl ?_
    · exact mq_res (HL6.out.done hsb0).2 rfl
    · exact ⟨_, _, m, rfl, (HL6.out.done hsb0).1⟩
  · obtain ⟨g, rfl, hlc⟩ := owns_at HE4.out hne
    go_wp2_with (first
      | (go_at_call 14; (fail_if_success (have := HL7)); refine (HN.out (m.edges.length : Int) _ (by omega) (by omega) HL6.out.mm.src).mono ?_; rintro e w7 ⟨r7, rfl, h70, h71, hs, hg⟩; have HL7 := hide (HL6.out.drawn hsb0 hs hg); obtain ⟨k, rfl⟩ : ∃ k : Nat, r7 = (k : Int) := ⟨r7.toNat, by omega⟩; have hk : k < m.edges.length := (by omega); clear hs hg h70 c0 c1 c2 r0 r1 r2 rz bz)
      | (go_at_call 14; have MK7 := HL7; (fail_if_success (have := HL8)); refine (HN.out 4 _ (by omega) (by omega) HL7.out.mm.src).mono ?_; rintro e w8 ⟨r8, rfl, h80, h81, hs, hg⟩; have HL8 := hide (HL7.out.drawn hsb0 hs hg); have c0 := HL8.out.bx.cell 0 _ rfl; have c1 := HL8.out.bx.cell 1 _ rfl; have c2 := HL8.out.bx.cell 2 _ rfl; have r0 := HL8.out.rx.cell 0 _ rfl; have r1 := HL8.out.rx.cell 1 _ rfl; have r2 := HL8.out.rx.cell 2 _ rfl; have rz := HL8.out.rx.fz; have bz := HL8.out.bx.fz; obtain ⟨⟨d1, d2, d3⟩, df⟩ := edge_cells HL8.out.mm k hk; clear hs hg; obtain rfl | rfl | rfl | rfl : r8 = 0 ∨ r8 = 1 ∨ r8 = 2 ∨ r8 = 3 := (by omega)))
    · have gne : g ≠ w4.heap.size := (HL8.out.ne g (by simp [vblocks, cellBlocks])).1
      have HD8 : Hid (LmAt w w8.drew sb ao len cap w.heap.size w4.heap.size (.slice ps m.states.length cs) (.slice (some ⟨g, 0, none⟩) m.edges.length ce) m) := hide (HL8.out.below ((Below.refl _ w8).drew))
      go_region_held3 (fun w' => w'.cell? ⟨w4.heap.size, 1, none⟩ = some (.slice (some ⟨g, 0, none⟩) m.edges.length ce)) (first | exact k1 | exact c1 | (exact (World.cell?_setCell_other _ _ _ _ (fun e => gne (by injection e))).trans k1) | go_keep) (first
        | (go_simp; go_at_call 31; refine (pick_any sb ao len cap lbT (.slice (some ⟨w8.heap.size, 0, none⟩) 3 3) (w8.drew.alloc lbO) hl (by simp [lbT]) (by simp [lbT]) (lb_at w8.drew) (by have := HD8.out.mm.ap.size; simp [vblocks, cellBlocks] at this ⊢; omega) (HD8.out.below (malloc1 _ lbO)).mm.src).mono ?_; rintro e w9 ⟨xp, hxp, rfl, hs, hg⟩; have HL9 := hide ((HD8.out.below (malloc1 _ lbO)).drawn hsb0 hs hg); have HXP := hide (lb_small hxp); have k1 := HL9.out.bx.cell 1 _ rfl; obtain ⟨⟨d1, d2, d3⟩, df⟩ := edge_cells HL9.out.mm k hk; clear hs hg hxp)
        | fail)
      have HZ := hide (HL9.out.putE hsb0 k 1 _ hk (by omega) rfl { m.edges[k] with label := xp } (.string xp) rfl (Nat.le_trans HXP.out (by omega)))
      clear c0 c1 c2 r0 r1 r2 rz bz
      generalize w9.setCell ⟨g, k * 4 + 1, none⟩ (.string xp) = WZ at HZ ⊢
      have c0 := HZ.out.bx.cell 0 _ rfl
      have c1 := HZ.out.bx.cell 1 _ rfl
      have c2 := HZ.out.bx.cell 2 _ rfl
      have r0 := HZ.out.rx.cell 0 _ rfl
      have r1 := HZ.out.rx.cell 1 _ rfl
      have r2 := HZ.out.rx.cell 2 _ rfl
      have rz := HZ.out.rx.fz
      have bz := HZ.out.bx.fz
      go_wp2_with fail
      exact bodyPost_ret (v := .agg #[.slice ps m.states.length cs, .slice (some ⟨g, 0, none⟩) m.edges.length ce, .int .i64 m.start]) (mq_res (HZ.out.done hsb0).2 rfl) rfl ⟨_, _, ⟨m.states, m.edges.set k { m.edges[k] with label := xp }, m.start⟩, rfl, (HZ.out.done hsb0).1⟩
    · have gne : g ≠ w4.heap.size := (HL8.out.ne g (by simp [vblocks, cellBlocks])).1
      have HD8 : Hid (LmAt w w8.drew sb ao len cap w.heap.size w4.heap.size (.slice ps m.states.length cs) (.slice (some ⟨g, 0, none⟩) m.edges.length ce) m) := hide (HL8.out.below ((Below.refl _ w8).drew))
      have gn0 : (⟨g, k * 4 + 3, none⟩ : Addr) ≠ ⟨w4.heap.size, 0, none⟩ := fun e => gne (by injection e)
      have gn1 : (⟨g, k * 4 + 3, none⟩ : Addr) ≠ ⟨w4.heap.size, 1, none⟩ := fun e => gne (by injection e)
      have hwl : IntKind.i64.wrap ((m.states.length : Int) + 1) = (m.states.length : Int) + 1 := by rw [IntKind.wrap_i64]; omega
      go_region_held3 (fun w' => w'.cell? ⟨w4.heap.size, 0, none⟩ = some (.slice ps m.states.length cs) ∧ w'.cell? ⟨w4.heap.size, 1, none⟩ = some (.slice (some ⟨g, 0, none⟩) m.edges.length ce)) (first | ((fail_if_success (have := k0)); exact ⟨c0, c1⟩) | (rw [World.cell?_setCell_other _ _ _ _ gn0, World.cell?_setCell_other _ _ _ _ gn1]; exact ⟨k0, k1⟩) | exact ⟨k0, k1⟩ | go_keep) (first
        | (go_simp; go_at_call 14; refine (HN.out ((m.states.length : Int) + 1) _ (by omega) (by omega) HD8.out.mm.src).mono ?_; rintro e w9 ⟨r9, rfl, h90, h91, hs, hg⟩; have HL9 := hide (HD8.out.drawn hsb0 hs hg); have k0 := HL9.out.bx.cell 0 _ rfl; have k1 := HL9.out.bx.cell 1 _ rfl; obtain ⟨⟨d1, d2, d3⟩, df⟩ := edge_cells HL9.out.mm k hk; clear hs hg)
        | fail)
      have HZ := hide (HL9.out.putE hsb0 k 3 _ hk (by omega) rfl { m.edges[k] with dst := r9 - 1 } (.int .i64 (r9 - 1)) rfl (by have := HL9.out.mm.ef _ (List.getElem_mem hk); exact this))
      clear c0 c1 c2 r0 r1 r2 rz bz
      have hw9 : IntKind.i64.wrap (r9 - 1) = r9 - 1 := by rw [IntKind.wrap_i64]; omega
      rw [hw9]
      generalize w9.setCell ⟨g, k * 4 + 3, none⟩ (.int .i64 (r9 - 1)) = WZ at HZ ⊢
      have c0 := HZ.out.bx.cell 0 _ rfl
      have c1 := HZ.out.bx.cell 1 _ rfl
      have c2 := HZ.out.bx.cell 2 _ rfl
      have r0 := HZ.out.rx.cell 0 _ rfl
      have r1 := HZ.out.rx.cell 1 _ rfl
      have r2 := HZ.out.rx.cell 2 _ rfl
      have rz := HZ.out.rx.fz
      have bz := HZ.out.bx.fz
      go_wp2_with fail
      exact bodyPost_ret (v := .agg #[.slice ps m.states.length cs, .slice (some ⟨g, 0, none⟩) m.edges.length ce, .int .i64 m.start]) (mq_res (HZ.out.done hsb0).2 rfl) rfl ⟨_, _, ⟨m.states, m.edges.set k { m.edges[k] with dst := r9 - 1 }, m.start⟩, rfl, (HZ.out.done hsb0).1⟩
    · have gne : g ≠ w4.heap.size := (HL8.out.ne g (by simp [vblocks, cellBlocks])).1
      have HD8 : Hid (LmAt w w8.drew sb ao len cap w.heap.size w4.heap.size (.slice ps m.states.length cs) (.slice (some ⟨g, 0, none⟩) m.edges.length ce) m) := hide (HL8.out.below ((Below.refl _ w8).drew))
      go_region_held3 (fun w' => w'.cell? ⟨w4.heap.size, 1, none⟩ = some (.slice (some ⟨g, 0, none⟩) m.edges.length ce)) (first | exact k1 | exact c1 | (exact (World.cell?_setCell_other _ _ _ _ (fun e => gne (by injection e))).trans k1) | go_keep) (first
        | (go_simp; go_at_call 14; refine (HN.out 5 _ (by omega) (by omega) HD8.out.mm.src).mono ?_; rintro e w9 ⟨r9, rfl, h90, h91, hs, hg⟩; have HL9 := hide (HD8.out.drawn hsb0 hs hg); have k1 := HL9.out.bx.cell 1 _ rfl; obtain ⟨⟨d1, d2, d3⟩, df⟩ := edge_cells HL9.out.mm k hk; clear hs hg)
        | fail)
      have HZ := hide (HL9.out.putE hsb0 k 2 _ hk (by omega) rfl { m.edges[k] with sort := r9 - 1 } (.int .i64 (r9 - 1)) rfl (by have := HL9.out.mm.ef _ (List.getElem_mem hk); exact this))
      clear c0 c1 c2 r0 r1 r2 rz bz
      have hw9 : IntKind.i64.wrap (r9 - 1) = r9 - 1 := by rw [IntKind.wrap_i64]; omega
      rw [hw9]
      generalize w9.setCell ⟨g, k * 4 + 2, none⟩ (.int .i64 (r9 - 1)) = WZ at HZ ⊢
      have c0 := HZ.out.bx.cell 0 _ rfl
      have c1 := HZ.out.bx.cell 1 _ rfl
      have c2 := HZ.out.bx.cell 2 _ rfl
      have r0 := HZ.out.rx.cell 0 _ rfl
      have r1 := HZ.out.rx.cell 1 _ rfl
      have r2 := HZ.out.rx.cell 2 _ rfl
      have rz := HZ.out.rx.fz
      have bz := HZ.out.bx.fz
      go_wp2_with fail
      exact bodyPost_ret (v := .agg #[.slice ps m.states.length cs, .slice (some ⟨g, 0, none⟩) m.edges.length ce, .int .i64 m.start]) (mq_res (HZ.out.done hsb0).2 rfl) rfl ⟨_, _, ⟨m.states, m.edges.set k { m.edges[k] with sort := r9 - 1 }, m.start⟩, rfl, (HZ.out.done hsb0).1⟩
    · go_wp2_with (go_at_call 14; refine (HN.out ((m.states.length : Int) + 2) _ (by omega) (by omega) HL8.out.mm.src).mono ?_; rintro e w9 ⟨r9, rfl, h90, h91, hs, hg⟩; have HL9 := hide (HL8.out.drawn hsb0 hs hg); have HZ := hide (HL9.out.putS hsb0 (r9 - 1)); have q2 := HL9.out.bx.cell 2 _ rfl; have qz := HL9.out.bx.fz; have c0 := HZ.out.bx.cell 0 _ rfl; have c1 := HZ.out.bx.cell 1 _ rfl; have c2 := HZ.out.bx.cell 2 _ rfl; have r0 := HZ.out.rx.cell 0 _ rfl; have r1 := HZ.out.rx.cell 1 _ rfl; have r2 := HZ.out.rx.cell 2 _ rfl; have rz := HZ.out.rx.fz; have bz := HZ.out.bx.fz; clear hs hg)
      exact bodyPost_ret (v := .agg #[.slice ps m.states.length cs, .slice (some ⟨g, 0, none⟩) m.edges.length ce, .int .i64 (r9 - 1)]) (mq_res (HZ.out.done hsb0).2 rfl) rfl ⟨_, _, ⟨m.states, m.edges, r9 - 1⟩, rfl, (HZ.out.done hsb0).1⟩
  · refine bodyPost_ret (v := .agg #[.slice ps m.states.length cs, .slice pe m.edges.length ce, .int .i64 m.start]) ?_ rfl ?_
    · exact mq_res (HL6.out.done hsb0).2 rfl
    · exact ⟨_, _, m, rfl, (HL6.out.done hsb0).1⟩
  · refine bodyPost_ret (v := .agg #[.slice ps m.states.length cs, .slice pe m.edges.length ce, .int .i64 m.start]) ?_ rfl ?_
    · exact mq_res (HL6.out.done hsb0).2 rfl
    · exact ⟨_, _, m, rfl, (HL6.out.done hsb0).1⟩
end Go.Proofs.Ytlbcnmcfljaijaa
